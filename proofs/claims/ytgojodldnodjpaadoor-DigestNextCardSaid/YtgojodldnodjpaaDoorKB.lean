/- Digest: DigestNext. -/
import Derived.Test.YtgojodldnodjpaaDoorKA
namespace Go.Proofs.YtgojodldnodjpaaDoor
open Go.ChangeShapes Go.WideShapes Go.ChangeAt Go.WideElems Go.RowKit

theorem to_bs0u {ops : Array Oper} {o : Oper} {a : Act} {K : Act → World → Prop} {Q : Exit → Act → World → Prop} {E : Prop} {w : World} (n : Nat) (hgd : o.guard = none) (ho : o.op = .buildSlice 22 0 #[]) (hd : o.dst = some n)
    (hK : K (a.put (some n) (.slice (some ⟨w.heap.size, 0, none⟩) 0 0)) (w.alloc (.cells #[] 5))) : if Region.wanted o (yielded ops a.tmps) = true then Oper.wp Tryd.prog o a w K Q else E := by
  have hw : Region.wanted o (yielded ops a.tmps) = true := by simp [Region.wanted, hgd]
  rw [if_pos hw]
  exact wp_bs0b n ho hd hK

theorem wp_app_at (n : Nat) {o : Oper} {a : Act} {K : Act → World → Prop} {Q : Exit → Act → World → Prop} {w : World} (s x : Operand)
    (ho : o.op = .call { callee := .builtin .append, args := #[s, x], argTypes := #[22, 22] }) (hd : o.dst = some n)
    (base : Nat) (v : Value) (S : Nat → Prop) (A : Option Addr) (cap : Nat) (l l2 : List UInt8) (hs : a.eval s = v) (hx : a.eval x = .slice A l2.length cap) (hown : Own w base v l) (hsrc : Byt w S l2 A cap)
    (hlen : l.length + l2.length ≤ 140737488355328) (hbase : base ≤ w.heap.size)
    (h : ∀ v' w', Own w' base v' (l ++ l2) → w.grownBy w' v.ownBlock → K (a.put (some n) v') w') : o.wp Tryd.prog a w K Q :=
  wp_app_own s x ho base v S A cap l l2 hs hx hown hsrc hlen hbase fun v' w' h1 h2 => by rw [hd]; exact h v' w' h1 h2

set_option maxRecDepth 100000 in
set_option maxHeartbeats 32000000 in
theorem next_all (l : List UInt8) (A : Option Addr) (cap : Nat) (d : List UInt8) (w : World) (hl : Byt w (· < w.heap.size) l A cap) (hd : d.length = 32) (hk : KR w Kt) :
    Calls Tryd.prog 8 #[.slice A l.length cap, .agg (U d).toArray] w fun e w' => e = .returned (.bool true) ∧ Below w.heap.size w w' := by
  have HL := Lib.hid hl
  have HK := Lib.hid hk
  have HD := Lib.hid hd
  have hlt0 := hk.lt
  clear hl hk hd
  go_enter Tryd.func8, Tryd.ntmps8
  go_wp2_with fail
  generalize hW1 : w.alloc _ = W1
  obtain ⟨h0, hb1, hz1⟩ := box1 w (U d).toArray 26 W1 hW1
  clear hW1
  have hlt1 : w.heap.size < W1.heap.size := by omega
  have R1 := Lib.hid (show RowB W1 w.heap.size 26 d from h0)
  have HB1 := Lib.hid hb1
  have S0 := sane_all W1 (HK.out.keep (hb1.block 0 hlt0))
  clear h0 hb1 hz1
  refine S0.mono ?_
  rintro e w2 ⟨rfl, hb2⟩
  have hz2 := hb2.size
  have HB2 := Lib.hid (HB1.out.trans (hb2.mono (by omega)))
  have R2 := Lib.hid (R1.out.keep (hb2.block _ hlt1))
  have D0 := Lib.hid (digestsOf_all l A cap w2 (HL.out.keep fun i hi => ⟨by omega, HB2.out.block i hi⟩))
  clear S0 R1 HB1 hb2
  go_wp2_with fail
  refine D0.out.mono ?_
  rintro e w3 ⟨v, L, rfl, ho, hll, hb3⟩
  obtain ⟨A3, c3, rfl, hdl⟩ := ho.dl
  have hz3 := hb3.size
  have hn24 : L.length ≤ 24 := by omega
  have HB3 := Lib.hid (HB2.out.trans (hb3.mono (by omega)))
  have HDL := Lib.hid hdl
  have hcap := hdl.1
  have hcm := hdl.2.1
  have KEEP := Lib.hid (show ∀ ww, Below w3.heap.size w3 ww → DL ww (· < ww.heap.size) L A3 c3 ∧ KR ww Kt ∧ RowB ww w.heap.size 26 d ∧ Below w.heap.size w ww from fun ww h => by
    have hs := h.size
    exact ⟨HDL.out.keep fun i hi => ⟨by omega, h.block i hi.2⟩, HK.out.keep ((h.block 0 (by omega)).trans (HB3.out.block 0 hlt0)), R2.out.keep ((h.block _ (by omega)).trans (hb3.block _ (by omega))), HB3.out.trans (h.mono (by omega))⟩)
  clear D0 HB2 R2 ho hdl hb3 hll
  obtain ⟨F0, hF0⟩ : ∃ F0 : Nat, F0 = 100 := ⟨_, rfl⟩
  have hF1 : F0 ≤ 100 := by omega
  have hF2 : 100 ≤ F0 := by omega
  clear hF0
  go_wp2_with fail
  go_loopw [6] (fun x wr => ∃ t n : Nat, n = 2 ^ t ∧ x = .int .i64 n ∧ 0 < n ∧ n ≤ 48 ∧ Below w3.heap.size w3 wr) (fun x _ => 49 - (intOf x).toNat)
  case atStart => exact ⟨0, 1, rfl, rfl, by omega, by omega, Below.refl _ _⟩
  case round =>
    obtain ⟨t, n, hat, rfl, hn0, hn48, hbr⟩ := hrel
    have HAT := Lib.hid hat
    have HBR := Lib.hid hbr
    have hzr := hbr.size
    clear hat hbr
    by_cases hlt : n ≤ L.length
    · obtain ⟨bb, oo, rfl, hS2, _⟩ := HDL.out.2.2.2.2 (by omega)
      have hlb : (n : Int) ≤ L.length := by omega
      obtain ⟨M, hM⟩ : ∃ M, M = L.take n := ⟨_, rfl⟩
      have hMn : M.length = n := by rw [hM, List.length_take]; omega
      obtain ⟨T1, hT1⟩ : ∃ T, T = tree F0 M := ⟨_, rfl⟩
      obtain ⟨T2, hT2⟩ : ∃ T, T = tree F0 [d] := ⟨_, rfl⟩
      obtain ⟨T3, hT3⟩ : ∃ T, T = noded T1 T2 := ⟨_, rfl⟩
      have HT1 := Lib.hid (show T1.length = 32 by rw [hT1]; exact tree_len _ _)
      have HT2 := Lib.hid (show T2.length = 32 by rw [hT2]; exact tree_len _ _)
      have HT3L := Lib.hid (show T3.length = 32 by rw [hT3]; exact tagd_len _ _)
      have HTN := Lib.hid (show tree F0 (M ++ [d]) = T3 by rw [hT3, hT1, hT2]; exact tree_next F0 t M d (hMn.trans HAT.out) (by omega) (by omega))
      have HPN := Lib.hid (show pth F0 (M ++ [d]) n = [T1] by rw [hT1, ← hMn]; exact pth_next F0 t M d (hMn.trans HAT.out) (by omega) (by omega))
      have HT3 := Lib.hid (show T3 = tagd nodeT.data.toList (([] ++ T1) ++ T2) by rw [hT3]; rfl)
      have KW := Lib.hid (show ∀ ww, Below wr.heap.size wr ww → Below w3.heap.size w3 ww from fun ww h => HBR.out.trans (h.mono hzr))
      have TA := Lib.hid (show ∀ ww, Below wr.heap.size wr ww → Calls Tryd.prog 17 #[.slice (some ⟨bb, oo, none⟩) n c3] ww fun e w' => e = .returned (.agg (U T1).toArray) ∧ Below ww.heap.size ww w' from fun ww h => by
        have := tree_all F0 M (some ⟨bb, oo, none⟩) c3 ww (by omega) (by omega) (by rw [hM]; exact (KEEP.out ww (KW.out ww h)).1.take n) (KEEP.out ww (KW.out ww h)).2.1
        rwa [hMn, ← hT1] at this)
      have TB := Lib.hid (show ∀ ww g, RowB ww g 26 d → Below wr.heap.size wr ww → Calls Tryd.prog 17 #[.slice (some ⟨g, 0, none⟩) 1 1] ww fun e w' => e = .returned (.agg (U T2).toArray) ∧ Below ww.heap.size ww w' from fun ww g hg h => by
        have := tree_all F0 [d] (some ⟨g, 0, none⟩) 1 ww (by simp; omega) (by omega) ((DL.one hg HD.out).keep fun i hi => ⟨by rw [hi]; exact hg.lt, rfl⟩) (KEEP.out ww (KW.out ww h)).2.1
        rw [← hT2] at this
        exact this)
      have KR3 := Lib.hid (show ∀ ww, Below wr.heap.size wr ww → RowB ww w.heap.size 26 d from fun ww h => (KEEP.out ww (KW.out ww h)).2.2.1)
      have HMN := Lib.hid hMn
      have HM := Lib.hid hM
      clear hT1 hT2 hT3 hM hMn
      go_upto_region 7 with fail
      go_cut [7, 8] from 22 to 28 (fun x y wx => ∃ g7 g8 : Nat, x = .pointer (some ⟨g7, 0, none⟩) ∧ y = .pointer (some ⟨g8, 0, none⟩) ∧ St wr (some (g7, T1)) (some (g8, T2)) wx)
      case first =>
          refine wp_region_noPanic ?_
          have z0 := NX.base wr d
          refine wp_region_held_drew (S := fun ww => Below wr.heap.size wr ww) (by kernel_rfl) z0.st.below (fun _ => ?_)
          revert z0; generalize World.drew wr = v0; intro z0
          refine tk_move 0 22 (.tmp 5) (.slice (some ⟨bb, oo, none⟩) L.length c3) rfl (by kernel_rfl) (by kernel_rfl) (by kernel_rfl) (fun _ _ _ _ h => h) rfl rfl rfl rfl z0.st.below ?_
          simp only [Act.put, List.setIfInBounds_toArray, List.set_cons_zero, List.set_cons_succ]
          refine tk_move 1 23 (.tmp 6) (.int .i64 n) rfl (by kernel_rfl) (by kernel_rfl) (by kernel_rfl) (fun _ _ _ _ h => h) rfl rfl rfl rfl z0.st.below ?_
          simp only [Act.put, List.setIfInBounds_toArray, List.set_cons_zero, List.set_cons_succ]
          refine tk_val 2 24 (.slice (some ⟨bb, oo, none⟩) n c3) rfl (by kernel_rfl) (by kernel_rfl) (by kernel_rfl) (fun _ _ _ _ h => h) rfl rfl (fun w _ => ev_slice_to (.tmp 22) (.tmp 23) bb oo L.length c3 n rfl rfl rfl (by omega)) z0.st.below ?_
          simp only [Act.put, List.setIfInBounds_toArray, List.set_cons_zero, List.set_cons_succ]
          refine tk_load 4 26 (.tmp 3) w.heap.size 0 d rfl (by kernel_rfl) (by kernel_rfl) (by kernel_rfl) (fun _ _ _ _ h => h) rfl rfl rfl rfl (fun w h => (KR3.out _ h).range) HD.out z0.st.below ?_
          simp only [Act.put, List.setIfInBounds_toArray, List.set_cons_zero, List.set_cons_succ]
          refine wpAnyH_ready (rs := [3, 5, 7, 8]) (by kernel_rfl) (by simp) ?_
          refine AllReadyH.cons (o := _) rfl (fun K hK => ?_) (AllReadyH.cons (o := _) rfl (fun K hK => ?_) (AllReadyH.cons (o := _) rfl (fun K hK => ?_) (AllReadyH.cons (o := _) rfl (fun K hK => ?_) AllReadyH.nil)))
          · refine to_call 17 25 _ _ #[.slice (some ⟨bb, oo, none⟩) n c3] _ rfl rfl rfl rfl enters_Tree (TA.out v0 z0.st.below) (fun e v2 h5 => ⟨_, h5.1, ?_⟩)
            have z1 := z0.step h5.2
            refine hK.out _ _ z1.st.below fun _ => ?_
            clear h5
            simp only [Act.put, List.setIfInBounds_toArray, List.set_cons_zero, List.set_cons_succ]
            clear hK
            refine wpAnyH_ready (rs := [5, 7, 8]) (by kernel_rfl) (by simp) ?_
            refine AllReadyH.cons (o := _) rfl (fun K hK => ?_) (AllReadyH.cons (o := _) rfl (fun K hK => ?_) (AllReadyH.cons (o := _) rfl (fun K hK => ?_) AllReadyH.nil))
            · have z3 := z1.mkrow
              refine to_bs1 27 (.tmp 26) d rfl rfl rfl rfl HD.out (hK.out _ _ z3.st.below fun _ => ?_)
              revert z3; generalize World.alloc v2 _ = v4; intro z3
              simp only [Act.put, List.setIfInBounds_toArray, List.set_cons_zero, List.set_cons_succ]
              clear hK
              refine wpAnyH_ready (rs := [6, 7, 8]) (by kernel_rfl) (by simp) ?_
              refine AllReadyH.cons (o := _) rfl (fun K hK => ?_) (AllReadyH.cons (o := _) rfl (fun K hK => ?_) (AllReadyH.cons (o := _) rfl (fun K hK => ?_) AllReadyH.nil))
              · refine to_call 17 28 _ _ #[.slice (some ⟨v2.heap.size, 0, none⟩) 1 1] _ rfl rfl rfl rfl enters_Tree (TB.out v4 v2.heap.size (z3.row _ rfl) z3.st.below) (fun e v6 h5 => ⟨_, h5.1, ?_⟩)
                have z5 := z3.step h5.2
                refine hK.out _ _ z5.st.below fun _ => ?_
                clear h5
                simp only [Act.put, List.setIfInBounds_toArray, List.set_cons_zero, List.set_cons_succ]
                clear hK
                refine wpAnyH_ready (rs := [7, 8]) (by kernel_rfl) (by simp) ?_
                refine AllReadyH.cons (o := _) rfl (fun K hK => ?_) (AllReadyH.cons (o := _) rfl (fun K hK => ?_) AllReadyH.nil)
                · have z7 := z5.new1
                  refine to_alloc 7 rfl rfl rfl (hK.out _ _ z7.st.below fun _ => ?_)
                  revert z7; generalize World.alloc v6 _ = v8; intro z7
                  simp only [Act.put, List.setIfInBounds_toArray, List.set_cons_zero, List.set_cons_succ]
                  clear hK
                  refine wpAnyH_ready (rs := [8]) (by kernel_rfl) (by simp) ?_
                  refine AllReadyH.cons (o := _) rfl (fun K hK => ?_) AllReadyH.nil
                  · have z9 := z7.new2
                    refine to_alloc 8 rfl rfl rfl (hK.out _ _ z9.st.below fun _ => ?_)
                    revert z9; generalize World.alloc v8 _ = v10; intro z9
                    simp only [Act.put, List.setIfInBounds_toArray, List.set_cons_zero, List.set_cons_succ]
                    clear hK
                    refine wpAnyH_ready (rs := [9]) (by kernel_rfl) (by simp) ?_
                    refine AllReadyH.cons (o := _) rfl (fun K hK => ?_) AllReadyH.nil
                    · have z11 := z9.st.set1 T1
                      refine to_store (.tmp 7) (.tmp 25) rfl rfl rfl v6.heap.size (flb 32 []) T1 rfl rfl (z9.st.one _ _ rfl).1 (by simp [flb]) HT1.out (hK.out _ _ z11.below fun _ => ?_)
                      revert z11; generalize World.setRow v10 _ _ = v12; intro z11
                      clear hK
                      refine wpAnyH_ready (rs := [10]) (by kernel_rfl) (by simp) ?_
                      refine AllReadyH.cons (o := _) rfl (fun K hK => ?_) AllReadyH.nil
                      · have z13 := z11.set2 T2
                        refine to_store (.tmp 8) (.tmp 28) rfl rfl rfl v8.heap.size (flb 32 []) T2 rfl rfl (z11.two _ _ rfl).1 (by simp [flb]) HT2.out (hK.out _ _ z13.below fun _ => ?_)
                        revert z13; generalize World.setRow v12 _ _ = v14; intro z13
                        clear hK
                        refine wpAnyH_done (by kernel_rfl) (NoPanic.normal ?_) _
                        have HE := Lib.hid z13
                        go_wp2_with fail
                        go_meet
                        exact ⟨_, _, rfl, rfl, HE.out⟩
                · have z15 := z5.new2
                  refine to_alloc 8 rfl rfl rfl (hK.out _ _ z15.st.below fun _ => ?_)
                  revert z15; generalize World.alloc v6 _ = v16; intro z15
                  simp only [Act.put, List.setIfInBounds_toArray, List.set_cons_zero, List.set_cons_succ]
                  clear hK
                  refine wpAnyH_ready (rs := [7]) (by kernel_rfl) (by simp) ?_
                  refine AllReadyH.cons (o := _) rfl (fun K hK => ?_) AllReadyH.nil
                  · have z17 := z15.new1
                    refine to_alloc 7 rfl rfl rfl (hK.out _ _ z17.st.below fun _ => ?_)
                    revert z17; generalize World.alloc v16 _ = v18; intro z17
                    simp only [Act.put, List.setIfInBounds_toArray, List.set_cons_zero, List.set_cons_succ]
                    clear hK
                    refine wpAnyH_ready (rs := [9]) (by kernel_rfl) (by simp) ?_
                    refine AllReadyH.cons (o := _) rfl (fun K hK => ?_) AllReadyH.nil
                    · have z19 := z17.st.set1 T1
                      refine to_store (.tmp 7) (.tmp 25) rfl rfl rfl v16.heap.size (flb 32 []) T1 rfl rfl (z17.st.one _ _ rfl).1 (by simp [flb]) HT1.out (hK.out _ _ z19.below fun _ => ?_)
                      revert z19; generalize World.setRow v18 _ _ = v20; intro z19
                      clear hK
                      refine wpAnyH_ready (rs := [10]) (by kernel_rfl) (by simp) ?_
                      refine AllReadyH.cons (o := _) rfl (fun K hK => ?_) AllReadyH.nil
                      · have z21 := z19.set2 T2
                        refine to_store (.tmp 8) (.tmp 28) rfl rfl rfl v6.heap.size (flb 32 []) T2 rfl rfl (z19.two _ _ rfl).1 (by simp [flb]) HT2.out (hK.out _ _ z21.below fun _ => ?_)
                        revert z21; generalize World.setRow v20 _ _ = v22; intro z21
                        clear hK
                        refine wpAnyH_done (by kernel_rfl) (NoPanic.normal ?_) _
                        have HE := Lib.hid z21
                        go_wp2_with fail
                        go_meet
                        exact ⟨_, _, rfl, rfl, HE.out⟩
              · have z23 := z3.new1
                refine to_alloc 7 rfl rfl rfl (hK.out _ _ z23.st.below fun _ => ?_)
                revert z23; generalize World.alloc v4 _ = v24; intro z23
                simp only [Act.put, List.setIfInBounds_toArray, List.set_cons_zero, List.set_cons_succ]
                clear hK
                refine wpAnyH_ready (rs := [6, 8]) (by kernel_rfl) (by simp) ?_
                refine AllReadyH.cons (o := _) rfl (fun K hK => ?_) (AllReadyH.cons (o := _) rfl (fun K hK => ?_) AllReadyH.nil)
                · refine to_call 17 28 _ _ #[.slice (some ⟨v2.heap.size, 0, none⟩) 1 1] _ rfl rfl rfl rfl enters_Tree (TB.out v24 v2.heap.size (z23.row _ rfl) z23.st.below) (fun e v26 h5 => ⟨_, h5.1, ?_⟩)
                  have z25 := z23.step h5.2
                  refine hK.out _ _ z25.st.below fun _ => ?_
                  clear h5
                  simp only [Act.put, List.setIfInBounds_toArray, List.set_cons_zero, List.set_cons_succ]
                  clear hK
                  refine wpAnyH_ready (rs := [8]) (by kernel_rfl) (by simp) ?_
                  refine AllReadyH.cons (o := _) rfl (fun K hK => ?_) AllReadyH.nil
                  · have z27 := z25.new2
                    refine to_alloc 8 rfl rfl rfl (hK.out _ _ z27.st.below fun _ => ?_)
                    revert z27; generalize World.alloc v26 _ = v28; intro z27
                    simp only [Act.put, List.setIfInBounds_toArray, List.set_cons_zero, List.set_cons_succ]
                    clear hK
                    refine wpAnyH_ready (rs := [9]) (by kernel_rfl) (by simp) ?_
                    refine AllReadyH.cons (o := _) rfl (fun K hK => ?_) AllReadyH.nil
                    · have z29 := z27.st.set1 T1
                      refine to_store (.tmp 7) (.tmp 25) rfl rfl rfl v4.heap.size (flb 32 []) T1 rfl rfl (z27.st.one _ _ rfl).1 (by simp [flb]) HT1.out (hK.out _ _ z29.below fun _ => ?_)
                      revert z29; generalize World.setRow v28 _ _ = v30; intro z29
                      clear hK
                      refine wpAnyH_ready (rs := [10]) (by kernel_rfl) (by simp) ?_
                      refine AllReadyH.cons (o := _) rfl (fun K hK => ?_) AllReadyH.nil
                      · have z31 := z29.set2 T2
                        refine to_store (.tmp 8) (.tmp 28) rfl rfl rfl v26.heap.size (flb 32 []) T2 rfl rfl (z29.two _ _ rfl).1 (by simp [flb]) HT2.out (hK.out _ _ z31.below fun _ => ?_)
                        revert z31; generalize World.setRow v30 _ _ = v32; intro z31
                        clear hK
                        refine wpAnyH_done (by kernel_rfl) (NoPanic.normal ?_) _
                        have HE := Lib.hid z31
                        go_wp2_with fail
                        go_meet
                        exact ⟨_, _, rfl, rfl, HE.out⟩
                · have z33 := z23.new2
                  refine to_alloc 8 rfl rfl rfl (hK.out _ _ z33.st.below fun _ => ?_)
                  revert z33; generalize World.alloc v24 _ = v34; intro z33
                  simp only [Act.put, List.setIfInBounds_toArray, List.set_cons_zero, List.set_cons_succ]
                  clear hK
                  refine wpAnyH_ready (rs := [6]) (by kernel_rfl) (by simp) ?_
                  refine AllReadyH.cons (o := _) rfl (fun K hK => ?_) AllReadyH.nil
                  · refine to_call 17 28 _ _ #[.slice (some ⟨v2.heap.size, 0, none⟩) 1 1] _ rfl rfl rfl rfl enters_Tree (TB.out v34 v2.heap.size (z33.row _ rfl) z33.st.below) (fun e v36 h5 => ⟨_, h5.1, ?_⟩)
                    have z35 := z33.step h5.2
                    refine hK.out _ _ z35.st.below fun _ => ?_
                    clear h5
                    simp only [Act.put, List.setIfInBounds_toArray, List.set_cons_zero, List.set_cons_succ]
                    clear hK
                    refine wpAnyH_ready (rs := [9]) (by kernel_rfl) (by simp) ?_
                    refine AllReadyH.cons (o := _) rfl (fun K hK => ?_) AllReadyH.nil
                    · have z37 := z35.st.set1 T1
                      refine to_store (.tmp 7) (.tmp 25) rfl rfl rfl v4.heap.size (flb 32 []) T1 rfl rfl (z35.st.one _ _ rfl).1 (by simp [flb]) HT1.out (hK.out _ _ z37.below fun _ => ?_)
                      revert z37; generalize World.setRow v36 _ _ = v38; intro z37
                      clear hK
                      refine wpAnyH_ready (rs := [10]) (by kernel_rfl) (by simp) ?_
                      refine AllReadyH.cons (o := _) rfl (fun K hK => ?_) AllReadyH.nil
                      · have z39 := z37.set2 T2
                        refine to_store (.tmp 8) (.tmp 28) rfl rfl rfl v24.heap.size (flb 32 []) T2 rfl rfl (z37.two _ _ rfl).1 (by simp [flb]) HT2.out (hK.out _ _ z39.below fun _ => ?_)
                        revert z39; generalize World.setRow v38 _ _ = v40; intro z39
                        clear hK
                        refine wpAnyH_done (by kernel_rfl) (NoPanic.normal ?_) _
                        have HE := Lib.hid z39
                        go_wp2_with fail
                        go_meet
                        exact ⟨_, _, rfl, rfl, HE.out⟩
              · have z41 := z3.new2
                refine to_alloc 8 rfl rfl rfl (hK.out _ _ z41.st.below fun _ => ?_)
                revert z41; generalize World.alloc v4 _ = v42; intro z41
                simp only [Act.put, List.setIfInBounds_toArray, List.set_cons_zero, List.set_cons_succ]
                clear hK
                refine wpAnyH_ready (rs := [6, 7]) (by kernel_rfl) (by simp) ?_
                refine AllReadyH.cons (o := _) rfl (fun K hK => ?_) (AllReadyH.cons (o := _) rfl (fun K hK => ?_) AllReadyH.nil)
                · refine to_call 17 28 _ _ #[.slice (some ⟨v2.heap.size, 0, none⟩) 1 1] _ rfl rfl rfl rfl enters_Tree (TB.out v42 v2.heap.size (z41.row _ rfl) z41.st.below) (fun e v44 h5 => ⟨_, h5.1, ?_⟩)
                  have z43 := z41.step h5.2
                  refine hK.out _ _ z43.st.below fun _ => ?_
                  clear h5
                  simp only [Act.put, List.setIfInBounds_toArray, List.set_cons_zero, List.set_cons_succ]
                  clear hK
                  refine wpAnyH_ready (rs := [7]) (by kernel_rfl) (by simp) ?_
                  refine AllReadyH.cons (o := _) rfl (fun K hK => ?_) AllReadyH.nil
                  · have z45 := z43.new1
                    refine to_alloc 7 rfl rfl rfl (hK.out _ _ z45.st.below fun _ => ?_)
                    revert z45; generalize World.alloc v44 _ = v46; intro z45
                    simp only [Act.put, List.setIfInBounds_toArray, List.set_cons_zero, List.set_cons_succ]
                    clear hK
                    refine wpAnyH_ready (rs := [9]) (by kernel_rfl) (by simp) ?_
                    refine AllReadyH.cons (o := _) rfl (fun K hK => ?_) AllReadyH.nil
                    · have z47 := z45.st.set1 T1
                      refine to_store (.tmp 7) (.tmp 25) rfl rfl rfl v44.heap.size (flb 32 []) T1 rfl rfl (z45.st.one _ _ rfl).1 (by simp [flb]) HT1.out (hK.out _ _ z47.below fun _ => ?_)
                      revert z47; generalize World.setRow v46 _ _ = v48; intro z47
                      clear hK
                      refine wpAnyH_ready (rs := [10]) (by kernel_rfl) (by simp) ?_
                      refine AllReadyH.cons (o := _) rfl (fun K hK => ?_) AllReadyH.nil
                      · have z49 := z47.set2 T2
                        refine to_store (.tmp 8) (.tmp 28) rfl rfl rfl v4.heap.size (flb 32 []) T2 rfl rfl (z47.two _ _ rfl).1 (by simp [flb]) HT2.out (hK.out _ _ z49.below fun _ => ?_)
                        revert z49; generalize World.setRow v48 _ _ = v50; intro z49
                        clear hK
                        refine wpAnyH_done (by kernel_rfl) (NoPanic.normal ?_) _
                        have HE := Lib.hid z49
                        go_wp2_with fail
                        go_meet
                        exact ⟨_, _, rfl, rfl, HE.out⟩
                · have z51 := z41.new1
                  refine to_alloc 7 rfl rfl rfl (hK.out _ _ z51.st.below fun _ => ?_)
                  revert z51; generalize World.alloc v42 _ = v52; intro z51
                  simp only [Act.put, List.setIfInBounds_toArray, List.set_cons_zero, List.set_cons_succ]
                  clear hK
                  refine wpAnyH_ready (rs := [6]) (by kernel_rfl) (by simp) ?_
                  refine AllReadyH.cons (o := _) rfl (fun K hK => ?_) AllReadyH.nil
                  · refine to_call 17 28 _ _ #[.slice (some ⟨v2.heap.size, 0, none⟩) 1 1] _ rfl rfl rfl rfl enters_Tree (TB.out v52 v2.heap.size (z51.row _ rfl) z51.st.below) (fun e v54 h5 => ⟨_, h5.1, ?_⟩)
                    have z53 := z51.step h5.2
                    refine hK.out _ _ z53.st.below fun _ => ?_
                    clear h5
                    simp only [Act.put, List.setIfInBounds_toArray, List.set_cons_zero, List.set_cons_succ]
                    clear hK
                    refine wpAnyH_ready (rs := [9]) (by kernel_rfl) (by simp) ?_
                    refine AllReadyH.cons (o := _) rfl (fun K hK => ?_) AllReadyH.nil
                    · have z55 := z53.st.set1 T1
                      refine to_store (.tmp 7) (.tmp 25) rfl rfl rfl v42.heap.size (flb 32 []) T1 rfl rfl (z53.st.one _ _ rfl).1 (by simp [flb]) HT1.out (hK.out _ _ z55.below fun _ => ?_)
                      revert z55; generalize World.setRow v54 _ _ = v56; intro z55
                      clear hK
                      refine wpAnyH_ready (rs := [10]) (by kernel_rfl) (by simp) ?_
                      refine AllReadyH.cons (o := _) rfl (fun K hK => ?_) AllReadyH.nil
                      · have z57 := z55.set2 T2
                        refine to_store (.tmp 8) (.tmp 28) rfl rfl rfl v4.heap.size (flb 32 []) T2 rfl rfl (z55.two _ _ rfl).1 (by simp [flb]) HT2.out (hK.out _ _ z57.below fun _ => ?_)
                        revert z57; generalize World.setRow v56 _ _ = v58; intro z57
                        clear hK
                        refine wpAnyH_done (by kernel_rfl) (NoPanic.normal ?_) _
                        have HE := Lib.hid z57
                        go_wp2_with fail
                        go_meet
                        exact ⟨_, _, rfl, rfl, HE.out⟩
            · have z59 := z1.new1
              refine to_alloc 7 rfl rfl rfl (hK.out _ _ z59.st.below fun _ => ?_)
              revert z59; generalize World.alloc v2 _ = v60; intro z59
              simp only [Act.put, List.setIfInBounds_toArray, List.set_cons_zero, List.set_cons_succ]
              clear hK
              refine wpAnyH_ready (rs := [5, 8]) (by kernel_rfl) (by simp) ?_
              refine AllReadyH.cons (o := _) rfl (fun K hK => ?_) (AllReadyH.cons (o := _) rfl (fun K hK => ?_) AllReadyH.nil)
              · have z61 := z59.mkrow
                refine to_bs1 27 (.tmp 26) d rfl rfl rfl rfl HD.out (hK.out _ _ z61.st.below fun _ => ?_)
                revert z61; generalize World.alloc v60 _ = v62; intro z61
                simp only [Act.put, List.setIfInBounds_toArray, List.set_cons_zero, List.set_cons_succ]
                clear hK
                refine wpAnyH_ready (rs := [6, 8]) (by kernel_rfl) (by simp) ?_
                refine AllReadyH.cons (o := _) rfl (fun K hK => ?_) (AllReadyH.cons (o := _) rfl (fun K hK => ?_) AllReadyH.nil)
                · refine to_call 17 28 _ _ #[.slice (some ⟨v60.heap.size, 0, none⟩) 1 1] _ rfl rfl rfl rfl enters_Tree (TB.out v62 v60.heap.size (z61.row _ rfl) z61.st.below) (fun e v64 h5 => ⟨_, h5.1, ?_⟩)
                  have z63 := z61.step h5.2
                  refine hK.out _ _ z63.st.below fun _ => ?_
                  clear h5
                  simp only [Act.put, List.setIfInBounds_toArray, List.set_cons_zero, List.set_cons_succ]
                  clear hK
                  refine wpAnyH_ready (rs := [8]) (by kernel_rfl) (by simp) ?_
                  refine AllReadyH.cons (o := _) rfl (fun K hK => ?_) AllReadyH.nil
                  · have z65 := z63.new2
                    refine to_alloc 8 rfl rfl rfl (hK.out _ _ z65.st.below fun _ => ?_)
                    revert z65; generalize World.alloc v64 _ = v66; intro z65
                    simp only [Act.put, List.setIfInBounds_toArray, List.set_cons_zero, List.set_cons_succ]
                    clear hK
                    refine wpAnyH_ready (rs := [9]) (by kernel_rfl) (by simp) ?_
                    refine AllReadyH.cons (o := _) rfl (fun K hK => ?_) AllReadyH.nil
                    · have z67 := z65.st.set1 T1
                      refine to_store (.tmp 7) (.tmp 25) rfl rfl rfl v2.heap.size (flb 32 []) T1 rfl rfl (z65.st.one _ _ rfl).1 (by simp [flb]) HT1.out (hK.out _ _ z67.below fun _ => ?_)
                      revert z67; generalize World.setRow v66 _ _ = v68; intro z67
                      clear hK
                      refine wpAnyH_ready (rs := [10]) (by kernel_rfl) (by simp) ?_
                      refine AllReadyH.cons (o := _) rfl (fun K hK => ?_) AllReadyH.nil
                      · have z69 := z67.set2 T2
                        refine to_store (.tmp 8) (.tmp 28) rfl rfl rfl v64.heap.size (flb 32 []) T2 rfl rfl (z67.two _ _ rfl).1 (by simp [flb]) HT2.out (hK.out _ _ z69.below fun _ => ?_)
                        revert z69; generalize World.setRow v68 _ _ = v70; intro z69
                        clear hK
                        refine wpAnyH_done (by kernel_rfl) (NoPanic.normal ?_) _
                        have HE := Lib.hid z69
                        go_wp2_with fail
                        go_meet
                        exact ⟨_, _, rfl, rfl, HE.out⟩
                · have z71 := z61.new2
                  refine to_alloc 8 rfl rfl rfl (hK.out _ _ z71.st.below fun _ => ?_)
                  revert z71; generalize World.alloc v62 _ = v72; intro z71
                  simp only [Act.put, List.setIfInBounds_toArray, List.set_cons_zero, List.set_cons_succ]
                  clear hK
                  refine wpAnyH_ready (rs := [6]) (by kernel_rfl) (by simp) ?_
                  refine AllReadyH.cons (o := _) rfl (fun K hK => ?_) AllReadyH.nil
                  · refine to_call 17 28 _ _ #[.slice (some ⟨v60.heap.size, 0, none⟩) 1 1] _ rfl rfl rfl rfl enters_Tree (TB.out v72 v60.heap.size (z71.row _ rfl) z71.st.below) (fun e v74 h5 => ⟨_, h5.1, ?_⟩)
                    have z73 := z71.step h5.2
                    refine hK.out _ _ z73.st.below fun _ => ?_
                    clear h5
                    simp only [Act.put, List.setIfInBounds_toArray, List.set_cons_zero, List.set_cons_succ]
                    clear hK
                    refine wpAnyH_ready (rs := [9]) (by kernel_rfl) (by simp) ?_
                    refine AllReadyH.cons (o := _) rfl (fun K hK => ?_) AllReadyH.nil
                    · have z75 := z73.st.set1 T1
                      refine to_store (.tmp 7) (.tmp 25) rfl rfl rfl v2.heap.size (flb 32 []) T1 rfl rfl (z73.st.one _ _ rfl).1 (by simp [flb]) HT1.out (hK.out _ _ z75.below fun _ => ?_)
                      revert z75; generalize World.setRow v74 _ _ = v76; intro z75
                      clear hK
                      refine wpAnyH_ready (rs := [10]) (by kernel_rfl) (by simp) ?_
                      refine AllReadyH.cons (o := _) rfl (fun K hK => ?_) AllReadyH.nil
                      · have z77 := z75.set2 T2
                        refine to_store (.tmp 8) (.tmp 28) rfl rfl rfl v62.heap.size (flb 32 []) T2 rfl rfl (z75.two _ _ rfl).1 (by simp [flb]) HT2.out (hK.out _ _ z77.below fun _ => ?_)
                        revert z77; generalize World.setRow v76 _ _ = v78; intro z77
                        clear hK
                        refine wpAnyH_done (by kernel_rfl) (NoPanic.normal ?_) _
                        have HE := Lib.hid z77
                        go_wp2_with fail
                        go_meet
                        exact ⟨_, _, rfl, rfl, HE.out⟩
              · have z79 := z59.new2
                refine to_alloc 8 rfl rfl rfl (hK.out _ _ z79.st.below fun _ => ?_)
                revert z79; generalize World.alloc v60 _ = v80; intro z79
                simp only [Act.put, List.setIfInBounds_toArray, List.set_cons_zero, List.set_cons_succ]
                clear hK
                refine wpAnyH_ready (rs := [5]) (by kernel_rfl) (by simp) ?_
                refine AllReadyH.cons (o := _) rfl (fun K hK => ?_) AllReadyH.nil
                · have z81 := z79.mkrow
                  refine to_bs1 27 (.tmp 26) d rfl rfl rfl rfl HD.out (hK.out _ _ z81.st.below fun _ => ?_)
                  revert z81; generalize World.alloc v80 _ = v82; intro z81
                  simp only [Act.put, List.setIfInBounds_toArray, List.set_cons_zero, List.set_cons_succ]
                  clear hK
                  refine wpAnyH_ready (rs := [6]) (by kernel_rfl) (by simp) ?_
                  refine AllReadyH.cons (o := _) rfl (fun K hK => ?_) AllReadyH.nil
                  · refine to_call 17 28 _ _ #[.slice (some ⟨v80.heap.size, 0, none⟩) 1 1] _ rfl rfl rfl rfl enters_Tree (TB.out v82 v80.heap.size (z81.row _ rfl) z81.st.below) (fun e v84 h5 => ⟨_, h5.1, ?_⟩)
                    have z83 := z81.step h5.2
                    refine hK.out _ _ z83.st.below fun _ => ?_
                    clear h5
                    simp only [Act.put, List.setIfInBounds_toArray, List.set_cons_zero, List.set_cons_succ]
                    clear hK
                    refine wpAnyH_ready (rs := [9]) (by kernel_rfl) (by simp) ?_
                    refine AllReadyH.cons (o := _) rfl (fun K hK => ?_) AllReadyH.nil
                    · have z85 := z83.st.set1 T1
                      refine to_store (.tmp 7) (.tmp 25) rfl rfl rfl v2.heap.size (flb 32 []) T1 rfl rfl (z83.st.one _ _ rfl).1 (by simp [flb]) HT1.out (hK.out _ _ z85.below fun _ => ?_)
                      revert z85; generalize World.setRow v84 _ _ = v86; intro z85
                      clear hK
                      refine wpAnyH_ready (rs := [10]) (by kernel_rfl) (by simp) ?_
                      refine AllReadyH.cons (o := _) rfl (fun K hK => ?_) AllReadyH.nil
                      · have z87 := z85.set2 T2
                        refine to_store (.tmp 8) (.tmp 28) rfl rfl rfl v60.heap.size (flb 32 []) T2 rfl rfl (z85.two _ _ rfl).1 (by simp [flb]) HT2.out (hK.out _ _ z87.below fun _ => ?_)
                        revert z87; generalize World.setRow v86 _ _ = v88; intro z87
                        clear hK
                        refine wpAnyH_done (by kernel_rfl) (NoPanic.normal ?_) _
                        have HE := Lib.hid z87
                        go_wp2_with fail
                        go_meet
                        exact ⟨_, _, rfl, rfl, HE.out⟩
            · have z89 := z1.new2
              refine to_alloc 8 rfl rfl rfl (hK.out _ _ z89.st.below fun _ => ?_)
              revert z89; generalize World.alloc v2 _ = v90; intro z89
              simp only [Act.put, List.setIfInBounds_toArray, List.set_cons_zero, List.set_cons_succ]
              clear hK
              refine wpAnyH_ready (rs := [5, 7]) (by kernel_rfl) (by simp) ?_
              refine AllReadyH.cons (o := _) rfl (fun K hK => ?_) (AllReadyH.cons (o := _) rfl (fun K hK => ?_) AllReadyH.nil)
              · have z91 := z89.mkrow
                refine to_bs1 27 (.tmp 26) d rfl rfl rfl rfl HD.out (hK.out _ _ z91.st.below fun _ => ?_)
                revert z91; generalize World.alloc v90 _ = v92; intro z91
                simp only [Act.put, List.setIfInBounds_toArray, List.set_cons_zero, List.set_cons_succ]
                clear hK
                refine wpAnyH_ready (rs := [6, 7]) (by kernel_rfl) (by simp) ?_
                refine AllReadyH.cons (o := _) rfl (fun K hK => ?_) (AllReadyH.cons (o := _) rfl (fun K hK => ?_) AllReadyH.nil)
                · refine to_call 17 28 _ _ #[.slice (some ⟨v90.heap.size, 0, none⟩) 1 1] _ rfl rfl rfl rfl enters_Tree (TB.out v92 v90.heap.size (z91.row _ rfl) z91.st.below) (fun e v94 h5 => ⟨_, h5.1, ?_⟩)
                  have z93 := z91.step h5.2
                  refine hK.out _ _ z93.st.below fun _ => ?_
                  clear h5
                  simp only [Act.put, List.setIfInBounds_toArray, List.set_cons_zero, List.set_cons_succ]
                  clear hK
                  refine wpAnyH_ready (rs := [7]) (by kernel_rfl) (by simp) ?_
                  refine AllReadyH.cons (o := _) rfl (fun K hK => ?_) AllReadyH.nil
                  · have z95 := z93.new1
                    refine to_alloc 7 rfl rfl rfl (hK.out _ _ z95.st.below fun _ => ?_)
                    revert z95; generalize World.alloc v94 _ = v96; intro z95
                    simp only [Act.put, List.setIfInBounds_toArray, List.set_cons_zero, List.set_cons_succ]
                    clear hK
                    refine wpAnyH_ready (rs := [9]) (by kernel_rfl) (by simp) ?_
                    refine AllReadyH.cons (o := _) rfl (fun K hK => ?_) AllReadyH.nil
                    · have z97 := z95.st.set1 T1
                      refine to_store (.tmp 7) (.tmp 25) rfl rfl rfl v94.heap.size (flb 32 []) T1 rfl rfl (z95.st.one _ _ rfl).1 (by simp [flb]) HT1.out (hK.out _ _ z97.below fun _ => ?_)
                      revert z97; generalize World.setRow v96 _ _ = v98; intro z97
                      clear hK
                      refine wpAnyH_ready (rs := [10]) (by kernel_rfl) (by simp) ?_
                      refine AllReadyH.cons (o := _) rfl (fun K hK => ?_) AllReadyH.nil
                      · have z99 := z97.set2 T2
                        refine to_store (.tmp 8) (.tmp 28) rfl rfl rfl v2.heap.size (flb 32 []) T2 rfl rfl (z97.two _ _ rfl).1 (by simp [flb]) HT2.out (hK.out _ _ z99.below fun _ => ?_)
                        revert z99; generalize World.setRow v98 _ _ = v100; intro z99
                        clear hK
                        refine wpAnyH_done (by kernel_rfl) (NoPanic.normal ?_) _
                        have HE := Lib.hid z99
                        go_wp2_with fail
                        go_meet
                        exact ⟨_, _, rfl, rfl, HE.out⟩
                · have z101 := z91.new1
                  refine to_alloc 7 rfl rfl rfl (hK.out _ _ z101.st.below fun _ => ?_)
                  revert z101; generalize World.alloc v92 _ = v102; intro z101
                  simp only [Act.put, List.setIfInBounds_toArray, List.set_cons_zero, List.set_cons_succ]
                  clear hK
                  refine wpAnyH_ready (rs := [6]) (by kernel_rfl) (by simp) ?_
                  refine AllReadyH.cons (o := _) rfl (fun K hK => ?_) AllReadyH.nil
                  · refine to_call 17 28 _ _ #[.slice (some ⟨v90.heap.size, 0, none⟩) 1 1] _ rfl rfl rfl rfl enters_Tree (TB.out v102 v90.heap.size (z101.row _ rfl) z101.st.below) (fun e v104 h5 => ⟨_, h5.1, ?_⟩)
                    have z103 := z101.step h5.2
                    refine hK.out _ _ z103.st.below fun _ => ?_
                    clear h5
                    simp only [Act.put, List.setIfInBounds_toArray, List.set_cons_zero, List.set_cons_succ]
                    clear hK
                    refine wpAnyH_ready (rs := [9]) (by kernel_rfl) (by simp) ?_
                    refine AllReadyH.cons (o := _) rfl (fun K hK => ?_) AllReadyH.nil
                    · have z105 := z103.st.set1 T1
                      refine to_store (.tmp 7) (.tmp 25) rfl rfl rfl v92.heap.size (flb 32 []) T1 rfl rfl (z103.st.one _ _ rfl).1 (by simp [flb]) HT1.out (hK.out _ _ z105.below fun _ => ?_)
                      revert z105; generalize World.setRow v104 _ _ = v106; intro z105
                      clear hK
                      refine wpAnyH_ready (rs := [10]) (by kernel_rfl) (by simp) ?_
                      refine AllReadyH.cons (o := _) rfl (fun K hK => ?_) AllReadyH.nil
                      · have z107 := z105.set2 T2
                        refine to_store (.tmp 8) (.tmp 28) rfl rfl rfl v2.heap.size (flb 32 []) T2 rfl rfl (z105.two _ _ rfl).1 (by simp [flb]) HT2.out (hK.out _ _ z107.below fun _ => ?_)
                        revert z107; generalize World.setRow v106 _ _ = v108; intro z107
                        clear hK
                        refine wpAnyH_done (by kernel_rfl) (NoPanic.normal ?_) _
                        have HE := Lib.hid z107
                        go_wp2_with fail
                        go_meet
                        exact ⟨_, _, rfl, rfl, HE.out⟩
              · have z109 := z89.new1
                refine to_alloc 7 rfl rfl rfl (hK.out _ _ z109.st.below fun _ => ?_)
                revert z109; generalize World.alloc v90 _ = v110; intro z109
                simp only [Act.put, List.setIfInBounds_toArray, List.set_cons_zero, List.set_cons_succ]
                clear hK
                refine wpAnyH_ready (rs := [5]) (by kernel_rfl) (by simp) ?_
                refine AllReadyH.cons (o := _) rfl (fun K hK => ?_) AllReadyH.nil
                · have z111 := z109.mkrow
                  refine to_bs1 27 (.tmp 26) d rfl rfl rfl rfl HD.out (hK.out _ _ z111.st.below fun _ => ?_)
                  revert z111; generalize World.alloc v110 _ = v112; intro z111
                  simp only [Act.put, List.setIfInBounds_toArray, List.set_cons_zero, List.set_cons_succ]
                  clear hK
                  refine wpAnyH_ready (rs := [6]) (by kernel_rfl) (by simp) ?_
                  refine AllReadyH.cons (o := _) rfl (fun K hK => ?_) AllReadyH.nil
                  · refine to_call 17 28 _ _ #[.slice (some ⟨v110.heap.size, 0, none⟩) 1 1] _ rfl rfl rfl rfl enters_Tree (TB.out v112 v110.heap.size (z111.row _ rfl) z111.st.below) (fun e v114 h5 => ⟨_, h5.1, ?_⟩)
                    have z113 := z111.step h5.2
                    refine hK.out _ _ z113.st.below fun _ => ?_
                    clear h5
                    simp only [Act.put, List.setIfInBounds_toArray, List.set_cons_zero, List.set_cons_succ]
                    clear hK
                    refine wpAnyH_ready (rs := [9]) (by kernel_rfl) (by simp) ?_
                    refine AllReadyH.cons (o := _) rfl (fun K hK => ?_) AllReadyH.nil
                    · have z115 := z113.st.set1 T1
                      refine to_store (.tmp 7) (.tmp 25) rfl rfl rfl v90.heap.size (flb 32 []) T1 rfl rfl (z113.st.one _ _ rfl).1 (by simp [flb]) HT1.out (hK.out _ _ z115.below fun _ => ?_)
                      revert z115; generalize World.setRow v114 _ _ = v116; intro z115
                      clear hK
                      refine wpAnyH_ready (rs := [10]) (by kernel_rfl) (by simp) ?_
                      refine AllReadyH.cons (o := _) rfl (fun K hK => ?_) AllReadyH.nil
                      · have z117 := z115.set2 T2
                        refine to_store (.tmp 8) (.tmp 28) rfl rfl rfl v2.heap.size (flb 32 []) T2 rfl rfl (z115.two _ _ rfl).1 (by simp [flb]) HT2.out (hK.out _ _ z117.below fun _ => ?_)
                        revert z117; generalize World.setRow v116 _ _ = v118; intro z117
                        clear hK
                        refine wpAnyH_done (by kernel_rfl) (NoPanic.normal ?_) _
                        have HE := Lib.hid z117
                        go_wp2_with fail
                        go_meet
                        exact ⟨_, _, rfl, rfl, HE.out⟩
          · have z119 := z0.mkrow
            refine to_bs1 27 (.tmp 26) d rfl rfl rfl rfl HD.out (hK.out _ _ z119.st.below fun _ => ?_)
            revert z119; generalize World.alloc v0 _ = v120; intro z119
            simp only [Act.put, List.setIfInBounds_toArray, List.set_cons_zero, List.set_cons_succ]
            clear hK
            refine wpAnyH_ready (rs := [3, 7, 8]) (by kernel_rfl) (by simp) ?_
            refine AllReadyH.cons (o := _) rfl (fun K hK => ?_) (AllReadyH.cons (o := _) rfl (fun K hK => ?_) (AllReadyH.cons (o := _) rfl (fun K hK => ?_) AllReadyH.nil))
            · refine to_call 17 25 _ _ #[.slice (some ⟨bb, oo, none⟩) n c3] _ rfl rfl rfl rfl enters_Tree (TA.out v120 z119.st.below) (fun e v122 h5 => ⟨_, h5.1, ?_⟩)
              have z121 := z119.step h5.2
              refine hK.out _ _ z121.st.below fun _ => ?_
              clear h5
              simp only [Act.put, List.setIfInBounds_toArray, List.set_cons_zero, List.set_cons_succ]
              clear hK
              refine wpAnyH_ready (rs := [6, 7, 8]) (by kernel_rfl) (by simp) ?_
              refine AllReadyH.cons (o := _) rfl (fun K hK => ?_) (AllReadyH.cons (o := _) rfl (fun K hK => ?_) (AllReadyH.cons (o := _) rfl (fun K hK => ?_) AllReadyH.nil))
              · refine to_call 17 28 _ _ #[.slice (some ⟨v0.heap.size, 0, none⟩) 1 1] _ rfl rfl rfl rfl enters_Tree (TB.out v122 v0.heap.size (z121.row _ rfl) z121.st.below) (fun e v124 h5 => ⟨_, h5.1, ?_⟩)
                have z123 := z121.step h5.2
                refine hK.out _ _ z123.st.below fun _ => ?_
                clear h5
                simp only [Act.put, List.setIfInBounds_toArray, List.set_cons_zero, List.set_cons_succ]
                clear hK
                refine wpAnyH_ready (rs := [7, 8]) (by kernel_rfl) (by simp) ?_
                refine AllReadyH.cons (o := _) rfl (fun K hK => ?_) (AllReadyH.cons (o := _) rfl (fun K hK => ?_) AllReadyH.nil)
                · have z125 := z123.new1
                  refine to_alloc 7 rfl rfl rfl (hK.out _ _ z125.st.below fun _ => ?_)
                  revert z125; generalize World.alloc v124 _ = v126; intro z125
                  simp only [Act.put, List.setIfInBounds_toArray, List.set_cons_zero, List.set_cons_succ]
                  clear hK
                  refine wpAnyH_ready (rs := [8]) (by kernel_rfl) (by simp) ?_
                  refine AllReadyH.cons (o := _) rfl (fun K hK => ?_) AllReadyH.nil
                  · have z127 := z125.new2
                    refine to_alloc 8 rfl rfl rfl (hK.out _ _ z127.st.below fun _ => ?_)
                    revert z127; generalize World.alloc v126 _ = v128; intro z127
                    simp only [Act.put, List.setIfInBounds_toArray, List.set_cons_zero, List.set_cons_succ]
                    clear hK
                    refine wpAnyH_ready (rs := [9]) (by kernel_rfl) (by simp) ?_
                    refine AllReadyH.cons (o := _) rfl (fun K hK => ?_) AllReadyH.nil
                    · have z129 := z127.st.set1 T1
                      refine to_store (.tmp 7) (.tmp 25) rfl rfl rfl v124.heap.size (flb 32 []) T1 rfl rfl (z127.st.one _ _ rfl).1 (by simp [flb]) HT1.out (hK.out _ _ z129.below fun _ => ?_)
                      revert z129; generalize World.setRow v128 _ _ = v130; intro z129
                      clear hK
                      refine wpAnyH_ready (rs := [10]) (by kernel_rfl) (by simp) ?_
                      refine AllReadyH.cons (o := _) rfl (fun K hK => ?_) AllReadyH.nil
                      · have z131 := z129.set2 T2
                        refine to_store (.tmp 8) (.tmp 28) rfl rfl rfl v126.heap.size (flb 32 []) T2 rfl rfl (z129.two _ _ rfl).1 (by simp [flb]) HT2.out (hK.out _ _ z131.below fun _ => ?_)
                        revert z131; generalize World.setRow v130 _ _ = v132; intro z131
                        clear hK
                        refine wpAnyH_done (by kernel_rfl) (NoPanic.normal ?_) _
                        have HE := Lib.hid z131
                        go_wp2_with fail
                        go_meet
                        exact ⟨_, _, rfl, rfl, HE.out⟩
                · have z133 := z123.new2
                  refine to_alloc 8 rfl rfl rfl (hK.out _ _ z133.st.below fun _ => ?_)
                  revert z133; generalize World.alloc v124 _ = v134; intro z133
                  simp only [Act.put, List.setIfInBounds_toArray, List.set_cons_zero, List.set_cons_succ]
                  clear hK
                  refine wpAnyH_ready (rs := [7]) (by kernel_rfl) (by simp) ?_
                  refine AllReadyH.cons (o := _) rfl (fun K hK => ?_) AllReadyH.nil
                  · have z135 := z133.new1
                    refine to_alloc 7 rfl rfl rfl (hK.out _ _ z135.st.below fun _ => ?_)
                    revert z135; generalize World.alloc v134 _ = v136; intro z135
                    simp only [Act.put, List.setIfInBounds_toArray, List.set_cons_zero, List.set_cons_succ]
                    clear hK
                    refine wpAnyH_ready (rs := [9]) (by kernel_rfl) (by simp) ?_
                    refine AllReadyH.cons (o := _) rfl (fun K hK => ?_) AllReadyH.nil
                    · have z137 := z135.st.set1 T1
                      refine to_store (.tmp 7) (.tmp 25) rfl rfl rfl v134.heap.size (flb 32 []) T1 rfl rfl (z135.st.one _ _ rfl).1 (by simp [flb]) HT1.out (hK.out _ _ z137.below fun _ => ?_)
                      revert z137; generalize World.setRow v136 _ _ = v138; intro z137
                      clear hK
                      refine wpAnyH_ready (rs := [10]) (by kernel_rfl) (by simp) ?_
                      refine AllReadyH.cons (o := _) rfl (fun K hK => ?_) AllReadyH.nil
                      · have z139 := z137.set2 T2
                        refine to_store (.tmp 8) (.tmp 28) rfl rfl rfl v124.heap.size (flb 32 []) T2 rfl rfl (z137.two _ _ rfl).1 (by simp [flb]) HT2.out (hK.out _ _ z139.below fun _ => ?_)
                        revert z139; generalize World.setRow v138 _ _ = v140; intro z139
                        clear hK
                        refine wpAnyH_done (by kernel_rfl) (NoPanic.normal ?_) _
                        have HE := Lib.hid z139
                        go_wp2_with fail
                        go_meet
                        exact ⟨_, _, rfl, rfl, HE.out⟩
              · have z141 := z121.new1
                refine to_alloc 7 rfl rfl rfl (hK.out _ _ z141.st.below fun _ => ?_)
                revert z141; generalize World.alloc v122 _ = v142; intro z141
                simp only [Act.put, List.setIfInBounds_toArray, List.set_cons_zero, List.set_cons_succ]
                clear hK
                refine wpAnyH_ready (rs := [6, 8]) (by kernel_rfl) (by simp) ?_
                refine AllReadyH.cons (o := _) rfl (fun K hK => ?_) (AllReadyH.cons (o := _) rfl (fun K hK => ?_) AllReadyH.nil)
                · refine to_call 17 28 _ _ #[.slice (some ⟨v0.heap.size, 0, none⟩) 1 1] _ rfl rfl rfl rfl enters_Tree (TB.out v142 v0.heap.size (z141.row _ rfl) z141.st.below) (fun e v144 h5 => ⟨_, h5.1, ?_⟩)
                  have z143 := z141.step h5.2
                  refine hK.out _ _ z143.st.below fun _ => ?_
                  clear h5
                  simp only [Act.put, List.setIfInBounds_toArray, List.set_cons_zero, List.set_cons_succ]
                  clear hK
                  refine wpAnyH_ready (rs := [8]) (by kernel_rfl) (by simp) ?_
                  refine AllReadyH.cons (o := _) rfl (fun K hK => ?_) AllReadyH.nil
                  · have z145 := z143.new2
                    refine to_alloc 8 rfl rfl rfl (hK.out _ _ z145.st.below fun _ => ?_)
                    revert z145; generalize World.alloc v144 _ = v146; intro z145
                    simp only [Act.put, List.setIfInBounds_toArray, List.set_cons_zero, List.set_cons_succ]
                    clear hK
                    refine wpAnyH_ready (rs := [9]) (by kernel_rfl) (by simp) ?_
                    refine AllReadyH.cons (o := _) rfl (fun K hK => ?_) AllReadyH.nil
                    · have z147 := z145.st.set1 T1
                      refine to_store (.tmp 7) (.tmp 25) rfl rfl rfl v122.heap.size (flb 32 []) T1 rfl rfl (z145.st.one _ _ rfl).1 (by simp [flb]) HT1.out (hK.out _ _ z147.below fun _ => ?_)
                      revert z147; generalize World.setRow v146 _ _ = v148; intro z147
                      clear hK
                      refine wpAnyH_ready (rs := [10]) (by kernel_rfl) (by simp) ?_
                      refine AllReadyH.cons (o := _) rfl (fun K hK => ?_) AllReadyH.nil
                      · have z149 := z147.set2 T2
                        refine to_store (.tmp 8) (.tmp 28) rfl rfl rfl v144.heap.size (flb 32 []) T2 rfl rfl (z147.two _ _ rfl).1 (by simp [flb]) HT2.out (hK.out _ _ z149.below fun _ => ?_)
                        revert z149; generalize World.setRow v148 _ _ = v150; intro z149
                        clear hK
                        refine wpAnyH_done (by kernel_rfl) (NoPanic.normal ?_) _
                        have HE := Lib.hid z149
                        go_wp2_with fail
                        go_meet
                        exact ⟨_, _, rfl, rfl, HE.out⟩
                · have z151 := z141.new2
                  refine to_alloc 8 rfl rfl rfl (hK.out _ _ z151.st.below fun _ => ?_)
                  revert z151; generalize World.alloc v142 _ = v152; intro z151
                  simp only [Act.put, List.setIfInBounds_toArray, List.set_cons_zero, List.set_cons_succ]
                  clear hK
                  refine wpAnyH_ready (rs := [6]) (by kernel_rfl) (by simp) ?_
                  refine AllReadyH.cons (o := _) rfl (fun K hK => ?_) AllReadyH.nil
                  · refine to_call 17 28 _ _ #[.slice (some ⟨v0.heap.size, 0, none⟩) 1 1] _ rfl rfl rfl rfl enters_Tree (TB.out v152 v0.heap.size (z151.row _ rfl) z151.st.below) (fun e v154 h5 => ⟨_, h5.1, ?_⟩)
                    have z153 := z151.step h5.2
                    refine hK.out _ _ z153.st.below fun _ => ?_
                    clear h5
                    simp only [Act.put, List.setIfInBounds_toArray, List.set_cons_zero, List.set_cons_succ]
                    clear hK
                    refine wpAnyH_ready (rs := [9]) (by kernel_rfl) (by simp) ?_
                    refine AllReadyH.cons (o := _) rfl (fun K hK => ?_) AllReadyH.nil
                    · have z155 := z153.st.set1 T1
                      refine to_store (.tmp 7) (.tmp 25) rfl rfl rfl v122.heap.size (flb 32 []) T1 rfl rfl (z153.st.one _ _ rfl).1 (by simp [flb]) HT1.out (hK.out _ _ z155.below fun _ => ?_)
                      revert z155; generalize World.setRow v154 _ _ = v156; intro z155
                      clear hK
                      refine wpAnyH_ready (rs := [10]) (by kernel_rfl) (by simp) ?_
                      refine AllReadyH.cons (o := _) rfl (fun K hK => ?_) AllReadyH.nil
                      · have z157 := z155.set2 T2
                        refine to_store (.tmp 8) (.tmp 28) rfl rfl rfl v142.heap.size (flb 32 []) T2 rfl rfl (z155.two _ _ rfl).1 (by simp [flb]) HT2.out (hK.out _ _ z157.below fun _ => ?_)
                        revert z157; generalize World.setRow v156 _ _ = v158; intro z157
                        clear hK
                        refine wpAnyH_done (by kernel_rfl) (NoPanic.normal ?_) _
                        have HE := Lib.hid z157
                        go_wp2_with fail
                        go_meet
                        exact ⟨_, _, rfl, rfl, HE.out⟩
              · have z159 := z121.new2
                refine to_alloc 8 rfl rfl rfl (hK.out _ _ z159.st.below fun _ => ?_)
                revert z159; generalize World.alloc v122 _ = v160; intro z159
                simp only [Act.put, List.setIfInBounds_toArray, List.set_cons_zero, List.set_cons_succ]
                clear hK
                refine wpAnyH_ready (rs := [6, 7]) (by kernel_rfl) (by simp) ?_
                refine AllReadyH.cons (o := _) rfl (fun K hK => ?_) (AllReadyH.cons (o := _) rfl (fun K hK => ?_) AllReadyH.nil)
                · refine to_call 17 28 _ _ #[.slice (some ⟨v0.heap.size, 0, none⟩) 1 1] _ rfl rfl rfl rfl enters_Tree (TB.out v160 v0.heap.size (z159.row _ rfl) z159.st.below) (fun e v162 h5 => ⟨_, h5.1, ?_⟩)
                  have z161 := z159.step h5.2
                  refine hK.out _ _ z161.st.below fun _ => ?_
                  clear h5
                  simp only [Act.put, List.setIfInBounds_toArray, List.set_cons_zero, List.set_cons_succ]
                  clear hK
                  refine wpAnyH_ready (rs := [7]) (by kernel_rfl) (by simp) ?_
                  refine AllReadyH.cons (o := _) rfl (fun K hK => ?_) AllReadyH.nil
                  · have z163 := z161.new1
                    refine to_alloc 7 rfl rfl rfl (hK.out _ _ z163.st.below fun _ => ?_)
                    revert z163; generalize World.alloc v162 _ = v164; intro z163
                    simp only [Act.put, List.setIfInBounds_toArray, List.set_cons_zero, List.set_cons_succ]
                    clear hK
                    refine wpAnyH_ready (rs := [9]) (by kernel_rfl) (by simp) ?_
                    refine AllReadyH.cons (o := _) rfl (fun K hK => ?_) AllReadyH.nil
                    · have z165 := z163.st.set1 T1
                      refine to_store (.tmp 7) (.tmp 25) rfl rfl rfl v162.heap.size (flb 32 []) T1 rfl rfl (z163.st.one _ _ rfl).1 (by simp [flb]) HT1.out (hK.out _ _ z165.below fun _ => ?_)
                      revert z165; generalize World.setRow v164 _ _ = v166; intro z165
                      clear hK
                      refine wpAnyH_ready (rs := [10]) (by kernel_rfl) (by simp) ?_
                      refine AllReadyH.cons (o := _) rfl (fun K hK => ?_) AllReadyH.nil
                      · have z167 := z165.set2 T2
                        refine to_store (.tmp 8) (.tmp 28) rfl rfl rfl v122.heap.size (flb 32 []) T2 rfl rfl (z165.two _ _ rfl).1 (by simp [flb]) HT2.out (hK.out _ _ z167.below fun _ => ?_)
                        revert z167; generalize World.setRow v166 _ _ = v168; intro z167
                        clear hK
                        refine wpAnyH_done (by kernel_rfl) (NoPanic.normal ?_) _
                        have HE := Lib.hid z167
                        go_wp2_with fail
                        go_meet
                        exact ⟨_, _, rfl, rfl, HE.out⟩
                · have z169 := z159.new1
                  refine to_alloc 7 rfl rfl rfl (hK.out _ _ z169.st.below fun _ => ?_)
                  revert z169; generalize World.alloc v160 _ = v170; intro z169
                  simp only [Act.put, List.setIfInBounds_toArray, List.set_cons_zero, List.set_cons_succ]
                  clear hK
                  refine wpAnyH_ready (rs := [6]) (by kernel_rfl) (by simp) ?_
                  refine AllReadyH.cons (o := _) rfl (fun K hK => ?_) AllReadyH.nil
                  · refine to_call 17 28 _ _ #[.slice (some ⟨v0.heap.size, 0, none⟩) 1 1] _ rfl rfl rfl rfl enters_Tree (TB.out v170 v0.heap.size (z169.row _ rfl) z169.st.below) (fun e v172 h5 => ⟨_, h5.1, ?_⟩)
                    have z171 := z169.step h5.2
                    refine hK.out _ _ z171.st.below fun _ => ?_
                    clear h5
                    simp only [Act.put, List.setIfInBounds_toArray, List.set_cons_zero, List.set_cons_succ]
                    clear hK
                    refine wpAnyH_ready (rs := [9]) (by kernel_rfl) (by simp) ?_
                    refine AllReadyH.cons (o := _) rfl (fun K hK => ?_) AllReadyH.nil
                    · have z173 := z171.st.set1 T1
                      refine to_store (.tmp 7) (.tmp 25) rfl rfl rfl v160.heap.size (flb 32 []) T1 rfl rfl (z171.st.one _ _ rfl).1 (by simp [flb]) HT1.out (hK.out _ _ z173.below fun _ => ?_)
                      revert z173; generalize World.setRow v172 _ _ = v174; intro z173
                      clear hK
                      refine wpAnyH_ready (rs := [10]) (by kernel_rfl) (by simp) ?_
                      refine AllReadyH.cons (o := _) rfl (fun K hK => ?_) AllReadyH.nil
                      · have z175 := z173.set2 T2
                        refine to_store (.tmp 8) (.tmp 28) rfl rfl rfl v122.heap.size (flb 32 []) T2 rfl rfl (z173.two _ _ rfl).1 (by simp [flb]) HT2.out (hK.out _ _ z175.below fun _ => ?_)
                        revert z175; generalize World.setRow v174 _ _ = v176; intro z175
                        clear hK
                        refine wpAnyH_done (by kernel_rfl) (NoPanic.normal ?_) _
                        have HE := Lib.hid z175
                        go_wp2_with fail
                        go_meet
                        exact ⟨_, _, rfl, rfl, HE.out⟩
            · have z177 := z119.new1
              refine to_alloc 7 rfl rfl rfl (hK.out _ _ z177.st.below fun _ => ?_)
              revert z177; generalize World.alloc v120 _ = v178; intro z177
              simp only [Act.put, List.setIfInBounds_toArray, List.set_cons_zero, List.set_cons_succ]
              clear hK
              refine wpAnyH_ready (rs := [3, 8]) (by kernel_rfl) (by simp) ?_
              refine AllReadyH.cons (o := _) rfl (fun K hK => ?_) (AllReadyH.cons (o := _) rfl (fun K hK => ?_) AllReadyH.nil)
              · refine to_call 17 25 _ _ #[.slice (some ⟨bb, oo, none⟩) n c3] _ rfl rfl rfl rfl enters_Tree (TA.out v178 z177.st.below) (fun e v180 h5 => ⟨_, h5.1, ?_⟩)
                have z179 := z177.step h5.2
                refine hK.out _ _ z179.st.below fun _ => ?_
                clear h5
                simp only [Act.put, List.setIfInBounds_toArray, List.set_cons_zero, List.set_cons_succ]
                clear hK
                refine wpAnyH_ready (rs := [6, 8]) (by kernel_rfl) (by simp) ?_
                refine AllReadyH.cons (o := _) rfl (fun K hK => ?_) (AllReadyH.cons (o := _) rfl (fun K hK => ?_) AllReadyH.nil)
                · refine to_call 17 28 _ _ #[.slice (some ⟨v0.heap.size, 0, none⟩) 1 1] _ rfl rfl rfl rfl enters_Tree (TB.out v180 v0.heap.size (z179.row _ rfl) z179.st.below) (fun e v182 h5 => ⟨_, h5.1, ?_⟩)
                  have z181 := z179.step h5.2
                  refine hK.out _ _ z181.st.below fun _ => ?_
                  clear h5
                  simp only [Act.put, List.setIfInBounds_toArray, List.set_cons_zero, List.set_cons_succ]
                  clear hK
                  refine wpAnyH_ready (rs := [8]) (by kernel_rfl) (by simp) ?_
                  refine AllReadyH.cons (o := _) rfl (fun K hK => ?_) AllReadyH.nil
                  · have z183 := z181.new2
                    refine to_alloc 8 rfl rfl rfl (hK.out _ _ z183.st.below fun _ => ?_)
                    revert z183; generalize World.alloc v182 _ = v184; intro z183
                    simp only [Act.put, List.setIfInBounds_toArray, List.set_cons_zero, List.set_cons_succ]
                    clear hK
                    refine wpAnyH_ready (rs := [9]) (by kernel_rfl) (by simp) ?_
                    refine AllReadyH.cons (o := _) rfl (fun K hK => ?_) AllReadyH.nil
                    · have z185 := z183.st.set1 T1
                      refine to_store (.tmp 7) (.tmp 25) rfl rfl rfl v120.heap.size (flb 32 []) T1 rfl rfl (z183.st.one _ _ rfl).1 (by simp [flb]) HT1.out (hK.out _ _ z185.below fun _ => ?_)
                      revert z185; generalize World.setRow v184 _ _ = v186; intro z185
                      clear hK
                      refine wpAnyH_ready (rs := [10]) (by kernel_rfl) (by simp) ?_
                      refine AllReadyH.cons (o := _) rfl (fun K hK => ?_) AllReadyH.nil
                      · have z187 := z185.set2 T2
                        refine to_store (.tmp 8) (.tmp 28) rfl rfl rfl v182.heap.size (flb 32 []) T2 rfl rfl (z185.two _ _ rfl).1 (by simp [flb]) HT2.out (hK.out _ _ z187.below fun _ => ?_)
                        revert z187; generalize World.setRow v186 _ _ = v188; intro z187
                        clear hK
                        refine wpAnyH_done (by kernel_rfl) (NoPanic.normal ?_) _
                        have HE := Lib.hid z187
                        go_wp2_with fail
                        go_meet
                        exact ⟨_, _, rfl, rfl, HE.out⟩
                · have z189 := z179.new2
                  refine to_alloc 8 rfl rfl rfl (hK.out _ _ z189.st.below fun _ => ?_)
                  revert z189; generalize World.alloc v180 _ = v190; intro z189
                  simp only [Act.put, List.setIfInBounds_toArray, List.set_cons_zero, List.set_cons_succ]
                  clear hK
                  refine wpAnyH_ready (rs := [6]) (by kernel_rfl) (by simp) ?_
                  refine AllReadyH.cons (o := _) rfl (fun K hK => ?_) AllReadyH.nil
                  · refine to_call 17 28 _ _ #[.slice (some ⟨v0.heap.size, 0, none⟩) 1 1] _ rfl rfl rfl rfl enters_Tree (TB.out v190 v0.heap.size (z189.row _ rfl) z189.st.below) (fun e v192 h5 => ⟨_, h5.1, ?_⟩)
                    have z191 := z189.step h5.2
                    refine hK.out _ _ z191.st.below fun _ => ?_
                    clear h5
                    simp only [Act.put, List.setIfInBounds_toArray, List.set_cons_zero, List.set_cons_succ]
                    clear hK
                    refine wpAnyH_ready (rs := [9]) (by kernel_rfl) (by simp) ?_
                    refine AllReadyH.cons (o := _) rfl (fun K hK => ?_) AllReadyH.nil
                    · have z193 := z191.st.set1 T1
                      refine to_store (.tmp 7) (.tmp 25) rfl rfl rfl v120.heap.size (flb 32 []) T1 rfl rfl (z191.st.one _ _ rfl).1 (by simp [flb]) HT1.out (hK.out _ _ z193.below fun _ => ?_)
                      revert z193; generalize World.setRow v192 _ _ = v194; intro z193
                      clear hK
                      refine wpAnyH_ready (rs := [10]) (by kernel_rfl) (by simp) ?_
                      refine AllReadyH.cons (o := _) rfl (fun K hK => ?_) AllReadyH.nil
                      · have z195 := z193.set2 T2
                        refine to_store (.tmp 8) (.tmp 28) rfl rfl rfl v180.heap.size (flb 32 []) T2 rfl rfl (z193.two _ _ rfl).1 (by simp [flb]) HT2.out (hK.out _ _ z195.below fun _ => ?_)
                        revert z195; generalize World.setRow v194 _ _ = v196; intro z195
                        clear hK
                        refine wpAnyH_done (by kernel_rfl) (NoPanic.normal ?_) _
                        have HE := Lib.hid z195
                        go_wp2_with fail
                        go_meet
                        exact ⟨_, _, rfl, rfl, HE.out⟩
              · have z197 := z177.new2
                refine to_alloc 8 rfl rfl rfl (hK.out _ _ z197.st.below fun _ => ?_)
                revert z197; generalize World.alloc v178 _ = v198; intro z197
                simp only [Act.put, List.setIfInBounds_toArray, List.set_cons_zero, List.set_cons_succ]
                clear hK
                refine wpAnyH_ready (rs := [3]) (by kernel_rfl) (by simp) ?_
                refine AllReadyH.cons (o := _) rfl (fun K hK => ?_) AllReadyH.nil
                · refine to_call 17 25 _ _ #[.slice (some ⟨bb, oo, none⟩) n c3] _ rfl rfl rfl rfl enters_Tree (TA.out v198 z197.st.below) (fun e v200 h5 => ⟨_, h5.1, ?_⟩)
                  have z199 := z197.step h5.2
                  refine hK.out _ _ z199.st.below fun _ => ?_
                  clear h5
                  simp only [Act.put, List.setIfInBounds_toArray, List.set_cons_zero, List.set_cons_succ]
                  clear hK
                  refine wpAnyH_ready (rs := [6]) (by kernel_rfl) (by simp) ?_
                  refine AllReadyH.cons (o := _) rfl (fun K hK => ?_) AllReadyH.nil
                  · refine to_call 17 28 _ _ #[.slice (some ⟨v0.heap.size, 0, none⟩) 1 1] _ rfl rfl rfl rfl enters_Tree (TB.out v200 v0.heap.size (z199.row _ rfl) z199.st.below) (fun e v202 h5 => ⟨_, h5.1, ?_⟩)
                    have z201 := z199.step h5.2
                    refine hK.out _ _ z201.st.below fun _ => ?_
                    clear h5
                    simp only [Act.put, List.setIfInBounds_toArray, List.set_cons_zero, List.set_cons_succ]
                    clear hK
                    refine wpAnyH_ready (rs := [9]) (by kernel_rfl) (by simp) ?_
                    refine AllReadyH.cons (o := _) rfl (fun K hK => ?_) AllReadyH.nil
                    · have z203 := z201.st.set1 T1
                      refine to_store (.tmp 7) (.tmp 25) rfl rfl rfl v120.heap.size (flb 32 []) T1 rfl rfl (z201.st.one _ _ rfl).1 (by simp [flb]) HT1.out (hK.out _ _ z203.below fun _ => ?_)
                      revert z203; generalize World.setRow v202 _ _ = v204; intro z203
                      clear hK
                      refine wpAnyH_ready (rs := [10]) (by kernel_rfl) (by simp) ?_
                      refine AllReadyH.cons (o := _) rfl (fun K hK => ?_) AllReadyH.nil
                      · have z205 := z203.set2 T2
                        refine to_store (.tmp 8) (.tmp 28) rfl rfl rfl v178.heap.size (flb 32 []) T2 rfl rfl (z203.two _ _ rfl).1 (by simp [flb]) HT2.out (hK.out _ _ z205.below fun _ => ?_)
                        revert z205; generalize World.setRow v204 _ _ = v206; intro z205
                        clear hK
                        refine wpAnyH_done (by kernel_rfl) (NoPanic.normal ?_) _
                        have HE := Lib.hid z205
                        go_wp2_with fail
                        go_meet
                        exact ⟨_, _, rfl, rfl, HE.out⟩
            · have z207 := z119.new2
              refine to_alloc 8 rfl rfl rfl (hK.out _ _ z207.st.below fun _ => ?_)
              revert z207; generalize World.alloc v120 _ = v208; intro z207
              simp only [Act.put, List.setIfInBounds_toArray, List.set_cons_zero, List.set_cons_succ]
              clear hK
              refine wpAnyH_ready (rs := [3, 7]) (by kernel_rfl) (by simp) ?_
              refine AllReadyH.cons (o := _) rfl (fun K hK => ?_) (AllReadyH.cons (o := _) rfl (fun K hK => ?_) AllReadyH.nil)
              · refine to_call 17 25 _ _ #[.slice (some ⟨bb, oo, none⟩) n c3] _ rfl rfl rfl rfl enters_Tree (TA.out v208 z207.st.below) (fun e v210 h5 => ⟨_, h5.1, ?_⟩)
                have z209 := z207.step h5.2
                refine hK.out _ _ z209.st.below fun _ => ?_
                clear h5
                simp only [Act.put, List.setIfInBounds_toArray, List.set_cons_zero, List.set_cons_succ]
                clear hK
                refine wpAnyH_ready (rs := [6, 7]) (by kernel_rfl) (by simp) ?_
                refine AllReadyH.cons (o := _) rfl (fun K hK => ?_) (AllReadyH.cons (o := _) rfl (fun K hK => ?_) AllReadyH.nil)
                · refine to_call 17 28 _ _ #[.slice (some ⟨v0.heap.size, 0, none⟩) 1 1] _ rfl rfl rfl rfl enters_Tree (TB.out v210 v0.heap.size (z209.row _ rfl) z209.st.below) (fun e v212 h5 => ⟨_, h5.1, ?_⟩)
                  have z211 := z209.step h5.2
                  refine hK.out _ _ z211.st.below fun _ => ?_
                  clear h5
                  simp only [Act.put, List.setIfInBounds_toArray, List.set_cons_zero, List.set_cons_succ]
                  clear hK
                  refine wpAnyH_ready (rs := [7]) (by kernel_rfl) (by simp) ?_
                  refine AllReadyH.cons (o := _) rfl (fun K hK => ?_) AllReadyH.nil
                  · have z213 := z211.new1
                    refine to_alloc 7 rfl rfl rfl (hK.out _ _ z213.st.below fun _ => ?_)
                    revert z213; generalize World.alloc v212 _ = v214; intro z213
                    simp only [Act.put, List.setIfInBounds_toArray, List.set_cons_zero, List.set_cons_succ]
                    clear hK
                    refine wpAnyH_ready (rs := [9]) (by kernel_rfl) (by simp) ?_
                    refine AllReadyH.cons (o := _) rfl (fun K hK => ?_) AllReadyH.nil
                    · have z215 := z213.st.set1 T1
                      refine to_store (.tmp 7) (.tmp 25) rfl rfl rfl v212.heap.size (flb 32 []) T1 rfl rfl (z213.st.one _ _ rfl).1 (by simp [flb]) HT1.out (hK.out _ _ z215.below fun _ => ?_)
                      revert z215; generalize World.setRow v214 _ _ = v216; intro z215
                      clear hK
                      refine wpAnyH_ready (rs := [10]) (by kernel_rfl) (by simp) ?_
                      refine AllReadyH.cons (o := _) rfl (fun K hK => ?_) AllReadyH.nil
                      · have z217 := z215.set2 T2
                        refine to_store (.tmp 8) (.tmp 28) rfl rfl rfl v120.heap.size (flb 32 []) T2 rfl rfl (z215.two _ _ rfl).1 (by simp [flb]) HT2.out (hK.out _ _ z217.below fun _ => ?_)
                        revert z217; generalize World.setRow v216 _ _ = v218; intro z217
                        clear hK
                        refine wpAnyH_done (by kernel_rfl) (NoPanic.normal ?_) _
                        have HE := Lib.hid z217
                        go_wp2_with fail
                        go_meet
                        exact ⟨_, _, rfl, rfl, HE.out⟩
                · have z219 := z209.new1
                  refine to_alloc 7 rfl rfl rfl (hK.out _ _ z219.st.below fun _ => ?_)
                  revert z219; generalize World.alloc v210 _ = v220; intro z219
                  simp only [Act.put, List.setIfInBounds_toArray, List.set_cons_zero, List.set_cons_succ]
                  clear hK
                  refine wpAnyH_ready (rs := [6]) (by kernel_rfl) (by simp) ?_
                  refine AllReadyH.cons (o := _) rfl (fun K hK => ?_) AllReadyH.nil
                  · refine to_call 17 28 _ _ #[.slice (some ⟨v0.heap.size, 0, none⟩) 1 1] _ rfl rfl rfl rfl enters_Tree (TB.out v220 v0.heap.size (z219.row _ rfl) z219.st.below) (fun e v222 h5 => ⟨_, h5.1, ?_⟩)
                    have z221 := z219.step h5.2
                    refine hK.out _ _ z221.st.below fun _ => ?_
                    clear h5
                    simp only [Act.put, List.setIfInBounds_toArray, List.set_cons_zero, List.set_cons_succ]
                    clear hK
                    refine wpAnyH_ready (rs := [9]) (by kernel_rfl) (by simp) ?_
                    refine AllReadyH.cons (o := _) rfl (fun K hK => ?_) AllReadyH.nil
                    · have z223 := z221.st.set1 T1
                      refine to_store (.tmp 7) (.tmp 25) rfl rfl rfl v210.heap.size (flb 32 []) T1 rfl rfl (z221.st.one _ _ rfl).1 (by simp [flb]) HT1.out (hK.out _ _ z223.below fun _ => ?_)
                      revert z223; generalize World.setRow v222 _ _ = v224; intro z223
                      clear hK
                      refine wpAnyH_ready (rs := [10]) (by kernel_rfl) (by simp) ?_
                      refine AllReadyH.cons (o := _) rfl (fun K hK => ?_) AllReadyH.nil
                      · have z225 := z223.set2 T2
                        refine to_store (.tmp 8) (.tmp 28) rfl rfl rfl v120.heap.size (flb 32 []) T2 rfl rfl (z223.two _ _ rfl).1 (by simp [flb]) HT2.out (hK.out _ _ z225.below fun _ => ?_)
                        revert z225; generalize World.setRow v224 _ _ = v226; intro z225
                        clear hK
                        refine wpAnyH_done (by kernel_rfl) (NoPanic.normal ?_) _
                        have HE := Lib.hid z225
                        go_wp2_with fail
                        go_meet
                        exact ⟨_, _, rfl, rfl, HE.out⟩
              · have z227 := z207.new1
                refine to_alloc 7 rfl rfl rfl (hK.out _ _ z227.st.below fun _ => ?_)
                revert z227; generalize World.alloc v208 _ = v228; intro z227
                simp only [Act.put, List.setIfInBounds_toArray, List.set_cons_zero, List.set_cons_succ]
                clear hK
                refine wpAnyH_ready (rs := [3]) (by kernel_rfl) (by simp) ?_
                refine AllReadyH.cons (o := _) rfl (fun K hK => ?_) AllReadyH.nil
                · refine to_call 17 25 _ _ #[.slice (some ⟨bb, oo, none⟩) n c3] _ rfl rfl rfl rfl enters_Tree (TA.out v228 z227.st.below) (fun e v230 h5 => ⟨_, h5.1, ?_⟩)
                  have z229 := z227.step h5.2
                  refine hK.out _ _ z229.st.below fun _ => ?_
                  clear h5
                  simp only [Act.put, List.setIfInBounds_toArray, List.set_cons_zero, List.set_cons_succ]
                  clear hK
                  refine wpAnyH_ready (rs := [6]) (by kernel_rfl) (by simp) ?_
                  refine AllReadyH.cons (o := _) rfl (fun K hK => ?_) AllReadyH.nil
                  · refine to_call 17 28 _ _ #[.slice (some ⟨v0.heap.size, 0, none⟩) 1 1] _ rfl rfl rfl rfl enters_Tree (TB.out v230 v0.heap.size (z229.row _ rfl) z229.st.below) (fun e v232 h5 => ⟨_, h5.1, ?_⟩)
                    have z231 := z229.step h5.2
                    refine hK.out _ _ z231.st.below fun _ => ?_
                    clear h5
                    simp only [Act.put, List.setIfInBounds_toArray, List.set_cons_zero, List.set_cons_succ]
                    clear hK
                    refine wpAnyH_ready (rs := [9]) (by kernel_rfl) (by simp) ?_
                    refine AllReadyH.cons (o := _) rfl (fun K hK => ?_) AllReadyH.nil
                    · have z233 := z231.st.set1 T1
                      refine to_store (.tmp 7) (.tmp 25) rfl rfl rfl v208.heap.size (flb 32 []) T1 rfl rfl (z231.st.one _ _ rfl).1 (by simp [flb]) HT1.out (hK.out _ _ z233.below fun _ => ?_)
                      revert z233; generalize World.setRow v232 _ _ = v234; intro z233
                      clear hK
                      refine wpAnyH_ready (rs := [10]) (by kernel_rfl) (by simp) ?_
                      refine AllReadyH.cons (o := _) rfl (fun K hK => ?_) AllReadyH.nil
                      · have z235 := z233.set2 T2
                        refine to_store (.tmp 8) (.tmp 28) rfl rfl rfl v120.heap.size (flb 32 []) T2 rfl rfl (z233.two _ _ rfl).1 (by simp [flb]) HT2.out (hK.out _ _ z235.below fun _ => ?_)
                        revert z235; generalize World.setRow v234 _ _ = v236; intro z235
                        clear hK
                        refine wpAnyH_done (by kernel_rfl) (NoPanic.normal ?_) _
                        have HE := Lib.hid z235
                        go_wp2_with fail
                        go_meet
                        exact ⟨_, _, rfl, rfl, HE.out⟩
          · have z237 := z0.new1
            refine to_alloc 7 rfl rfl rfl (hK.out _ _ z237.st.below fun _ => ?_)
            revert z237; generalize World.alloc v0 _ = v238; intro z237
            simp only [Act.put, List.setIfInBounds_toArray, List.set_cons_zero, List.set_cons_succ]
            clear hK
            refine wpAnyH_ready (rs := [3, 5, 8]) (by kernel_rfl) (by simp) ?_
            refine AllReadyH.cons (o := _) rfl (fun K hK => ?_) (AllReadyH.cons (o := _) rfl (fun K hK => ?_) (AllReadyH.cons (o := _) rfl (fun K hK => ?_) AllReadyH.nil))
            · refine to_call 17 25 _ _ #[.slice (some ⟨bb, oo, none⟩) n c3] _ rfl rfl rfl rfl enters_Tree (TA.out v238 z237.st.below) (fun e v240 h5 => ⟨_, h5.1, ?_⟩)
              have z239 := z237.step h5.2
              refine hK.out _ _ z239.st.below fun _ => ?_
              clear h5
              simp only [Act.put, List.setIfInBounds_toArray, List.set_cons_zero, List.set_cons_succ]
              clear hK
              refine wpAnyH_ready (rs := [5, 8]) (by kernel_rfl) (by simp) ?_
              refine AllReadyH.cons (o := _) rfl (fun K hK => ?_) (AllReadyH.cons (o := _) rfl (fun K hK => ?_) AllReadyH.nil)
              · have z241 := z239.mkrow
                refine to_bs1 27 (.tmp 26) d rfl rfl rfl rfl HD.out (hK.out _ _ z241.st.below fun _ => ?_)
                revert z241; generalize World.alloc v240 _ = v242; intro z241
                simp only [Act.put, List.setIfInBounds_toArray, List.set_cons_zero, List.set_cons_succ]
                clear hK
                refine wpAnyH_ready (rs := [6, 8]) (by kernel_rfl) (by simp) ?_
                refine AllReadyH.cons (o := _) rfl (fun K hK => ?_) (AllReadyH.cons (o := _) rfl (fun K hK => ?_) AllReadyH.nil)
                · refine to_call 17 28 _ _ #[.slice (some ⟨v240.heap.size, 0, none⟩) 1 1] _ rfl rfl rfl rfl enters_Tree (TB.out v242 v240.heap.size (z241.row _ rfl) z241.st.below) (fun e v244 h5 => ⟨_, h5.1, ?_⟩)
                  have z243 := z241.step h5.2
                  refine hK.out _ _ z243.st.below fun _ => ?_
                  clear h5
                  simp only [Act.put, List.setIfInBounds_toArray, List.set_cons_zero, List.set_cons_succ]
                  clear hK
                  refine wpAnyH_ready (rs := [8]) (by kernel_rfl) (by simp) ?_
                  refine AllReadyH.cons (o := _) rfl (fun K hK => ?_) AllReadyH.nil
                  · have z245 := z243.new2
                    refine to_alloc 8 rfl rfl rfl (hK.out _ _ z245.st.below fun _ => ?_)
                    revert z245; generalize World.alloc v244 _ = v246; intro z245
                    simp only [Act.put, List.setIfInBounds_toArray, List.set_cons_zero, List.set_cons_succ]
                    clear hK
                    refine wpAnyH_ready (rs := [9]) (by kernel_rfl) (by simp) ?_
                    refine AllReadyH.cons (o := _) rfl (fun K hK => ?_) AllReadyH.nil
                    · have z247 := z245.st.set1 T1
                      refine to_store (.tmp 7) (.tmp 25) rfl rfl rfl v0.heap.size (flb 32 []) T1 rfl rfl (z245.st.one _ _ rfl).1 (by simp [flb]) HT1.out (hK.out _ _ z247.below fun _ => ?_)
                      revert z247; generalize World.setRow v246 _ _ = v248; intro z247
                      clear hK
                      refine wpAnyH_ready (rs := [10]) (by kernel_rfl) (by simp) ?_
                      refine AllReadyH.cons (o := _) rfl (fun K hK => ?_) AllReadyH.nil
                      · have z249 := z247.set2 T2
                        refine to_store (.tmp 8) (.tmp 28) rfl rfl rfl v244.heap.size (flb 32 []) T2 rfl rfl (z247.two _ _ rfl).1 (by simp [flb]) HT2.out (hK.out _ _ z249.below fun _ => ?_)
                        revert z249; generalize World.setRow v248 _ _ = v250; intro z249
                        clear hK
                        refine wpAnyH_done (by kernel_rfl) (NoPanic.normal ?_) _
                        have HE := Lib.hid z249
                        go_wp2_with fail
                        go_meet
                        exact ⟨_, _, rfl, rfl, HE.out⟩
                · have z251 := z241.new2
                  refine to_alloc 8 rfl rfl rfl (hK.out _ _ z251.st.below fun _ => ?_)
                  revert z251; generalize World.alloc v242 _ = v252; intro z251
                  simp only [Act.put, List.setIfInBounds_toArray, List.set_cons_zero, List.set_cons_succ]
                  clear hK
                  refine wpAnyH_ready (rs := [6]) (by kernel_rfl) (by simp) ?_
                  refine AllReadyH.cons (o := _) rfl (fun K hK => ?_) AllReadyH.nil
                  · refine to_call 17 28 _ _ #[.slice (some ⟨v240.heap.size, 0, none⟩) 1 1] _ rfl rfl rfl rfl enters_Tree (TB.out v252 v240.heap.size (z251.row _ rfl) z251.st.below) (fun e v254 h5 => ⟨_, h5.1, ?_⟩)
                    have z253 := z251.step h5.2
                    refine hK.out _ _ z253.st.below fun _ => ?_
                    clear h5
                    simp only [Act.put, List.setIfInBounds_toArray, List.set_cons_zero, List.set_cons_succ]
                    clear hK
                    refine wpAnyH_ready (rs := [9]) (by kernel_rfl) (by simp) ?_
                    refine AllReadyH.cons (o := _) rfl (fun K hK => ?_) AllReadyH.nil
                    · have z255 := z253.st.set1 T1
                      refine to_store (.tmp 7) (.tmp 25) rfl rfl rfl v0.heap.size (flb 32 []) T1 rfl rfl (z253.st.one _ _ rfl).1 (by simp [flb]) HT1.out (hK.out _ _ z255.below fun _ => ?_)
                      revert z255; generalize World.setRow v254 _ _ = v256; intro z255
                      clear hK
                      refine wpAnyH_ready (rs := [10]) (by kernel_rfl) (by simp) ?_
                      refine AllReadyH.cons (o := _) rfl (fun K hK => ?_) AllReadyH.nil
                      · have z257 := z255.set2 T2
                        refine to_store (.tmp 8) (.tmp 28) rfl rfl rfl v242.heap.size (flb 32 []) T2 rfl rfl (z255.two _ _ rfl).1 (by simp [flb]) HT2.out (hK.out _ _ z257.below fun _ => ?_)
                        revert z257; generalize World.setRow v256 _ _ = v258; intro z257
                        clear hK
                        refine wpAnyH_done (by kernel_rfl) (NoPanic.normal ?_) _
                        have HE := Lib.hid z257
                        go_wp2_with fail
                        go_meet
                        exact ⟨_, _, rfl, rfl, HE.out⟩
              · have z259 := z239.new2
                refine to_alloc 8 rfl rfl rfl (hK.out _ _ z259.st.below fun _ => ?_)
                revert z259; generalize World.alloc v240 _ = v260; intro z259
                simp only [Act.put, List.setIfInBounds_toArray, List.set_cons_zero, List.set_cons_succ]
                clear hK
                refine wpAnyH_ready (rs := [5]) (by kernel_rfl) (by simp) ?_
                refine AllReadyH.cons (o := _) rfl (fun K hK => ?_) AllReadyH.nil
                · have z261 := z259.mkrow
                  refine to_bs1 27 (.tmp 26) d rfl rfl rfl rfl HD.out (hK.out _ _ z261.st.below fun _ => ?_)
                  revert z261; generalize World.alloc v260 _ = v262; intro z261
                  simp only [Act.put, List.setIfInBounds_toArray, List.set_cons_zero, List.set_cons_succ]
                  clear hK
                  refine wpAnyH_ready (rs := [6]) (by kernel_rfl) (by simp) ?_
                  refine AllReadyH.cons (o := _) rfl (fun K hK => ?_) AllReadyH.nil
                  · refine to_call 17 28 _ _ #[.slice (some ⟨v260.heap.size, 0, none⟩) 1 1] _ rfl rfl rfl rfl enters_Tree (TB.out v262 v260.heap.size (z261.row _ rfl) z261.st.below) (fun e v264 h5 => ⟨_, h5.1, ?_⟩)
                    have z263 := z261.step h5.2
                    refine hK.out _ _ z263.st.below fun _ => ?_
                    clear h5
                    simp only [Act.put, List.setIfInBounds_toArray, List.set_cons_zero, List.set_cons_succ]
                    clear hK
                    refine wpAnyH_ready (rs := [9]) (by kernel_rfl) (by simp) ?_
                    refine AllReadyH.cons (o := _) rfl (fun K hK => ?_) AllReadyH.nil
                    · have z265 := z263.st.set1 T1
                      refine to_store (.tmp 7) (.tmp 25) rfl rfl rfl v0.heap.size (flb 32 []) T1 rfl rfl (z263.st.one _ _ rfl).1 (by simp [flb]) HT1.out (hK.out _ _ z265.below fun _ => ?_)
                      revert z265; generalize World.setRow v264 _ _ = v266; intro z265
                      clear hK
                      refine wpAnyH_ready (rs := [10]) (by kernel_rfl) (by simp) ?_
                      refine AllReadyH.cons (o := _) rfl (fun K hK => ?_) AllReadyH.nil
                      · have z267 := z265.set2 T2
                        refine to_store (.tmp 8) (.tmp 28) rfl rfl rfl v240.heap.size (flb 32 []) T2 rfl rfl (z265.two _ _ rfl).1 (by simp [flb]) HT2.out (hK.out _ _ z267.below fun _ => ?_)
                        revert z267; generalize World.setRow v266 _ _ = v268; intro z267
                        clear hK
                        refine wpAnyH_done (by kernel_rfl) (NoPanic.normal ?_) _
                        have HE := Lib.hid z267
                        go_wp2_with fail
                        go_meet
                        exact ⟨_, _, rfl, rfl, HE.out⟩
            · have z269 := z237.mkrow
              refine to_bs1 27 (.tmp 26) d rfl rfl rfl rfl HD.out (hK.out _ _ z269.st.below fun _ => ?_)
              revert z269; generalize World.alloc v238 _ = v270; intro z269
              simp only [Act.put, List.setIfInBounds_toArray, List.set_cons_zero, List.set_cons_succ]
              clear hK
              refine wpAnyH_ready (rs := [3, 8]) (by kernel_rfl) (by simp) ?_
              refine AllReadyH.cons (o := _) rfl (fun K hK => ?_) (AllReadyH.cons (o := _) rfl (fun K hK => ?_) AllReadyH.nil)
              · refine to_call 17 25 _ _ #[.slice (some ⟨bb, oo, none⟩) n c3] _ rfl rfl rfl rfl enters_Tree (TA.out v270 z269.st.below) (fun e v272 h5 => ⟨_, h5.1, ?_⟩)
                have z271 := z269.step h5.2
                refine hK.out _ _ z271.st.below fun _ => ?_
                clear h5
                simp only [Act.put, List.setIfInBounds_toArray, List.set_cons_zero, List.set_cons_succ]
                clear hK
                refine wpAnyH_ready (rs := [6, 8]) (by kernel_rfl) (by simp) ?_
                refine AllReadyH.cons (o := _) rfl (fun K hK => ?_) (AllReadyH.cons (o := _) rfl (fun K hK => ?_) AllReadyH.nil)
                · refine to_call 17 28 _ _ #[.slice (some ⟨v238.heap.size, 0, none⟩) 1 1] _ rfl rfl rfl rfl enters_Tree (TB.out v272 v238.heap.size (z271.row _ rfl) z271.st.below) (fun e v274 h5 => ⟨_, h5.1, ?_⟩)
                  have z273 := z271.step h5.2
                  refine hK.out _ _ z273.st.below fun _ => ?_
                  clear h5
                  simp only [Act.put, List.setIfInBounds_toArray, List.set_cons_zero, List.set_cons_succ]
                  clear hK
                  refine wpAnyH_ready (rs := [8]) (by kernel_rfl) (by simp) ?_
                  refine AllReadyH.cons (o := _) rfl (fun K hK => ?_) AllReadyH.nil
                  · have z275 := z273.new2
                    refine to_alloc 8 rfl rfl rfl (hK.out _ _ z275.st.below fun _ => ?_)
                    revert z275; generalize World.alloc v274 _ = v276; intro z275
                    simp only [Act.put, List.setIfInBounds_toArray, List.set_cons_zero, List.set_cons_succ]
                    clear hK
                    refine wpAnyH_ready (rs := [9]) (by kernel_rfl) (by simp) ?_
                    refine AllReadyH.cons (o := _) rfl (fun K hK => ?_) AllReadyH.nil
                    · have z277 := z275.st.set1 T1
                      refine to_store (.tmp 7) (.tmp 25) rfl rfl rfl v0.heap.size (flb 32 []) T1 rfl rfl (z275.st.one _ _ rfl).1 (by simp [flb]) HT1.out (hK.out _ _ z277.below fun _ => ?_)
                      revert z277; generalize World.setRow v276 _ _ = v278; intro z277
                      clear hK
                      refine wpAnyH_ready (rs := [10]) (by kernel_rfl) (by simp) ?_
                      refine AllReadyH.cons (o := _) rfl (fun K hK => ?_) AllReadyH.nil
                      · have z279 := z277.set2 T2
                        refine to_store (.tmp 8) (.tmp 28) rfl rfl rfl v274.heap.size (flb 32 []) T2 rfl rfl (z277.two _ _ rfl).1 (by simp [flb]) HT2.out (hK.out _ _ z279.below fun _ => ?_)
                        revert z279; generalize World.setRow v278 _ _ = v280; intro z279
                        clear hK
                        refine wpAnyH_done (by kernel_rfl) (NoPanic.normal ?_) _
                        have HE := Lib.hid z279
                        go_wp2_with fail
                        go_meet
                        exact ⟨_, _, rfl, rfl, HE.out⟩
                · have z281 := z271.new2
                  refine to_alloc 8 rfl rfl rfl (hK.out _ _ z281.st.below fun _ => ?_)
                  revert z281; generalize World.alloc v272 _ = v282; intro z281
                  simp only [Act.put, List.setIfInBounds_toArray, List.set_cons_zero, List.set_cons_succ]
                  clear hK
                  refine wpAnyH_ready (rs := [6]) (by kernel_rfl) (by simp) ?_
                  refine AllReadyH.cons (o := _) rfl (fun K hK => ?_) AllReadyH.nil
                  · refine to_call 17 28 _ _ #[.slice (some ⟨v238.heap.size, 0, none⟩) 1 1] _ rfl rfl rfl rfl enters_Tree (TB.out v282 v238.heap.size (z281.row _ rfl) z281.st.below) (fun e v284 h5 => ⟨_, h5.1, ?_⟩)
                    have z283 := z281.step h5.2
                    refine hK.out _ _ z283.st.below fun _ => ?_
                    clear h5
                    simp only [Act.put, List.setIfInBounds_toArray, List.set_cons_zero, List.set_cons_succ]
                    clear hK
                    refine wpAnyH_ready (rs := [9]) (by kernel_rfl) (by simp) ?_
                    refine AllReadyH.cons (o := _) rfl (fun K hK => ?_) AllReadyH.nil
                    · have z285 := z283.st.set1 T1
                      refine to_store (.tmp 7) (.tmp 25) rfl rfl rfl v0.heap.size (flb 32 []) T1 rfl rfl (z283.st.one _ _ rfl).1 (by simp [flb]) HT1.out (hK.out _ _ z285.below fun _ => ?_)
                      revert z285; generalize World.setRow v284 _ _ = v286; intro z285
                      clear hK
                      refine wpAnyH_ready (rs := [10]) (by kernel_rfl) (by simp) ?_
                      refine AllReadyH.cons (o := _) rfl (fun K hK => ?_) AllReadyH.nil
                      · have z287 := z285.set2 T2
                        refine to_store (.tmp 8) (.tmp 28) rfl rfl rfl v272.heap.size (flb 32 []) T2 rfl rfl (z285.two _ _ rfl).1 (by simp [flb]) HT2.out (hK.out _ _ z287.below fun _ => ?_)
                        revert z287; generalize World.setRow v286 _ _ = v288; intro z287
                        clear hK
                        refine wpAnyH_done (by kernel_rfl) (NoPanic.normal ?_) _
                        have HE := Lib.hid z287
                        go_wp2_with fail
                        go_meet
                        exact ⟨_, _, rfl, rfl, HE.out⟩
              · have z289 := z269.new2
                refine to_alloc 8 rfl rfl rfl (hK.out _ _ z289.st.below fun _ => ?_)
                revert z289; generalize World.alloc v270 _ = v290; intro z289
                simp only [Act.put, List.setIfInBounds_toArray, List.set_cons_zero, List.set_cons_succ]
                clear hK
                refine wpAnyH_ready (rs := [3]) (by kernel_rfl) (by simp) ?_
                refine AllReadyH.cons (o := _) rfl (fun K hK => ?_) AllReadyH.nil
                · refine to_call 17 25 _ _ #[.slice (some ⟨bb, oo, none⟩) n c3] _ rfl rfl rfl rfl enters_Tree (TA.out v290 z289.st.below) (fun e v292 h5 => ⟨_, h5.1, ?_⟩)
                  have z291 := z289.step h5.2
                  refine hK.out _ _ z291.st.below fun _ => ?_
                  clear h5
                  simp only [Act.put, List.setIfInBounds_toArray, List.set_cons_zero, List.set_cons_succ]
                  clear hK
                  refine wpAnyH_ready (rs := [6]) (by kernel_rfl) (by simp) ?_
                  refine AllReadyH.cons (o := _) rfl (fun K hK => ?_) AllReadyH.nil
                  · refine to_call 17 28 _ _ #[.slice (some ⟨v238.heap.size, 0, none⟩) 1 1] _ rfl rfl rfl rfl enters_Tree (TB.out v292 v238.heap.size (z291.row _ rfl) z291.st.below) (fun e v294 h5 => ⟨_, h5.1, ?_⟩)
                    have z293 := z291.step h5.2
                    refine hK.out _ _ z293.st.below fun _ => ?_
                    clear h5
                    simp only [Act.put, List.setIfInBounds_toArray, List.set_cons_zero, List.set_cons_succ]
                    clear hK
                    refine wpAnyH_ready (rs := [9]) (by kernel_rfl) (by simp) ?_
                    refine AllReadyH.cons (o := _) rfl (fun K hK => ?_) AllReadyH.nil
                    · have z295 := z293.st.set1 T1
                      refine to_store (.tmp 7) (.tmp 25) rfl rfl rfl v0.heap.size (flb 32 []) T1 rfl rfl (z293.st.one _ _ rfl).1 (by simp [flb]) HT1.out (hK.out _ _ z295.below fun _ => ?_)
                      revert z295; generalize World.setRow v294 _ _ = v296; intro z295
                      clear hK
                      refine wpAnyH_ready (rs := [10]) (by kernel_rfl) (by simp) ?_
                      refine AllReadyH.cons (o := _) rfl (fun K hK => ?_) AllReadyH.nil
                      · have z297 := z295.set2 T2
                        refine to_store (.tmp 8) (.tmp 28) rfl rfl rfl v270.heap.size (flb 32 []) T2 rfl rfl (z295.two _ _ rfl).1 (by simp [flb]) HT2.out (hK.out _ _ z297.below fun _ => ?_)
                        revert z297; generalize World.setRow v296 _ _ = v298; intro z297
                        clear hK
                        refine wpAnyH_done (by kernel_rfl) (NoPanic.normal ?_) _
                        have HE := Lib.hid z297
                        go_wp2_with fail
                        go_meet
                        exact ⟨_, _, rfl, rfl, HE.out⟩
            · have z299 := z237.new2
              refine to_alloc 8 rfl rfl rfl (hK.out _ _ z299.st.below fun _ => ?_)
              revert z299; generalize World.alloc v238 _ = v300; intro z299
              simp only [Act.put, List.setIfInBounds_toArray, List.set_cons_zero, List.set_cons_succ]
              clear hK
              refine wpAnyH_ready (rs := [3, 5]) (by kernel_rfl) (by simp) ?_
              refine AllReadyH.cons (o := _) rfl (fun K hK => ?_) (AllReadyH.cons (o := _) rfl (fun K hK => ?_) AllReadyH.nil)
              · refine to_call 17 25 _ _ #[.slice (some ⟨bb, oo, none⟩) n c3] _ rfl rfl rfl rfl enters_Tree (TA.out v300 z299.st.below) (fun e v302 h5 => ⟨_, h5.1, ?_⟩)
                have z301 := z299.step h5.2
                refine hK.out _ _ z301.st.below fun _ => ?_
                clear h5
                simp only [Act.put, List.setIfInBounds_toArray, List.set_cons_zero, List.set_cons_succ]
                clear hK
                refine wpAnyH_ready (rs := [5]) (by kernel_rfl) (by simp) ?_
                refine AllReadyH.cons (o := _) rfl (fun K hK => ?_) AllReadyH.nil
                · have z303 := z301.mkrow
                  refine to_bs1 27 (.tmp 26) d rfl rfl rfl rfl HD.out (hK.out _ _ z303.st.below fun _ => ?_)
                  revert z303; generalize World.alloc v302 _ = v304; intro z303
                  simp only [Act.put, List.setIfInBounds_toArray, List.set_cons_zero, List.set_cons_succ]
                  clear hK
                  refine wpAnyH_ready (rs := [6]) (by kernel_rfl) (by simp) ?_
                  refine AllReadyH.cons (o := _) rfl (fun K hK => ?_) AllReadyH.nil
                  · refine to_call 17 28 _ _ #[.slice (some ⟨v302.heap.size, 0, none⟩) 1 1] _ rfl rfl rfl rfl enters_Tree (TB.out v304 v302.heap.size (z303.row _ rfl) z303.st.below) (fun e v306 h5 => ⟨_, h5.1, ?_⟩)
                    have z305 := z303.step h5.2
                    refine hK.out _ _ z305.st.below fun _ => ?_
                    clear h5
                    simp only [Act.put, List.setIfInBounds_toArray, List.set_cons_zero, List.set_cons_succ]
                    clear hK
                    refine wpAnyH_ready (rs := [9]) (by kernel_rfl) (by simp) ?_
                    refine AllReadyH.cons (o := _) rfl (fun K hK => ?_) AllReadyH.nil
                    · have z307 := z305.st.set1 T1
                      refine to_store (.tmp 7) (.tmp 25) rfl rfl rfl v0.heap.size (flb 32 []) T1 rfl rfl (z305.st.one _ _ rfl).1 (by simp [flb]) HT1.out (hK.out _ _ z307.below fun _ => ?_)
                      revert z307; generalize World.setRow v306 _ _ = v308; intro z307
                      clear hK
                      refine wpAnyH_ready (rs := [10]) (by kernel_rfl) (by simp) ?_
                      refine AllReadyH.cons (o := _) rfl (fun K hK => ?_) AllReadyH.nil
                      · have z309 := z307.set2 T2
                        refine to_store (.tmp 8) (.tmp 28) rfl rfl rfl v238.heap.size (flb 32 []) T2 rfl rfl (z307.two _ _ rfl).1 (by simp [flb]) HT2.out (hK.out _ _ z309.below fun _ => ?_)
                        revert z309; generalize World.setRow v308 _ _ = v310; intro z309
                        clear hK
                        refine wpAnyH_done (by kernel_rfl) (NoPanic.normal ?_) _
                        have HE := Lib.hid z309
                        go_wp2_with fail
                        go_meet
                        exact ⟨_, _, rfl, rfl, HE.out⟩
              · have z311 := z299.mkrow
                refine to_bs1 27 (.tmp 26) d rfl rfl rfl rfl HD.out (hK.out _ _ z311.st.below fun _ => ?_)
                revert z311; generalize World.alloc v300 _ = v312; intro z311
                simp only [Act.put, List.setIfInBounds_toArray, List.set_cons_zero, List.set_cons_succ]
                clear hK
                refine wpAnyH_ready (rs := [3]) (by kernel_rfl) (by simp) ?_
                refine AllReadyH.cons (o := _) rfl (fun K hK => ?_) AllReadyH.nil
                · refine to_call 17 25 _ _ #[.slice (some ⟨bb, oo, none⟩) n c3] _ rfl rfl rfl rfl enters_Tree (TA.out v312 z311.st.below) (fun e v314 h5 => ⟨_, h5.1, ?_⟩)
                  have z313 := z311.step h5.2
                  refine hK.out _ _ z313.st.below fun _ => ?_
                  clear h5
                  simp only [Act.put, List.setIfInBounds_toArray, List.set_cons_zero, List.set_cons_succ]
                  clear hK
                  refine wpAnyH_ready (rs := [6]) (by kernel_rfl) (by simp) ?_
                  refine AllReadyH.cons (o := _) rfl (fun K hK => ?_) AllReadyH.nil
                  · refine to_call 17 28 _ _ #[.slice (some ⟨v300.heap.size, 0, none⟩) 1 1] _ rfl rfl rfl rfl enters_Tree (TB.out v314 v300.heap.size (z313.row _ rfl) z313.st.below) (fun e v316 h5 => ⟨_, h5.1, ?_⟩)
                    have z315 := z313.step h5.2
                    refine hK.out _ _ z315.st.below fun _ => ?_
                    clear h5
                    simp only [Act.put, List.setIfInBounds_toArray, List.set_cons_zero, List.set_cons_succ]
                    clear hK
                    refine wpAnyH_ready (rs := [9]) (by kernel_rfl) (by simp) ?_
                    refine AllReadyH.cons (o := _) rfl (fun K hK => ?_) AllReadyH.nil
                    · have z317 := z315.st.set1 T1
                      refine to_store (.tmp 7) (.tmp 25) rfl rfl rfl v0.heap.size (flb 32 []) T1 rfl rfl (z315.st.one _ _ rfl).1 (by simp [flb]) HT1.out (hK.out _ _ z317.below fun _ => ?_)
                      revert z317; generalize World.setRow v316 _ _ = v318; intro z317
                      clear hK
                      refine wpAnyH_ready (rs := [10]) (by kernel_rfl) (by simp) ?_
                      refine AllReadyH.cons (o := _) rfl (fun K hK => ?_) AllReadyH.nil
                      · have z319 := z317.set2 T2
                        refine to_store (.tmp 8) (.tmp 28) rfl rfl rfl v238.heap.size (flb 32 []) T2 rfl rfl (z317.two _ _ rfl).1 (by simp [flb]) HT2.out (hK.out _ _ z319.below fun _ => ?_)
                        revert z319; generalize World.setRow v318 _ _ = v320; intro z319
                        clear hK
                        refine wpAnyH_done (by kernel_rfl) (NoPanic.normal ?_) _
                        have HE := Lib.hid z319
                        go_wp2_with fail
                        go_meet
                        exact ⟨_, _, rfl, rfl, HE.out⟩
          · have z321 := z0.new2
            refine to_alloc 8 rfl rfl rfl (hK.out _ _ z321.st.below fun _ => ?_)
            revert z321; generalize World.alloc v0 _ = v322; intro z321
            simp only [Act.put, List.setIfInBounds_toArray, List.set_cons_zero, List.set_cons_succ]
            clear hK
            refine wpAnyH_ready (rs := [3, 5, 7]) (by kernel_rfl) (by simp) ?_
            refine AllReadyH.cons (o := _) rfl (fun K hK => ?_) (AllReadyH.cons (o := _) rfl (fun K hK => ?_) (AllReadyH.cons (o := _) rfl (fun K hK => ?_) AllReadyH.nil))
            · refine to_call 17 25 _ _ #[.slice (some ⟨bb, oo, none⟩) n c3] _ rfl rfl rfl rfl enters_Tree (TA.out v322 z321.st.below) (fun e v324 h5 => ⟨_, h5.1, ?_⟩)
              have z323 := z321.step h5.2
              refine hK.out _ _ z323.st.below fun _ => ?_
              clear h5
              simp only [Act.put, List.setIfInBounds_toArray, List.set_cons_zero, List.set_cons_succ]
              clear hK
              refine wpAnyH_ready (rs := [5, 7]) (by kernel_rfl) (by simp) ?_
              refine AllReadyH.cons (o := _) rfl (fun K hK => ?_) (AllReadyH.cons (o := _) rfl (fun K hK => ?_) AllReadyH.nil)
              · have z325 := z323.mkrow
                refine to_bs1 27 (.tmp 26) d rfl rfl rfl rfl HD.out (hK.out _ _ z325.st.below fun _ => ?_)
                revert z325; generalize World.alloc v324 _ = v326; intro z325
                simp only [Act.put, List.setIfInBounds_toArray, List.set_cons_zero, List.set_cons_succ]
                clear hK
                refine wpAnyH_ready (rs := [6, 7]) (by kernel_rfl) (by simp) ?_
                refine AllReadyH.cons (o := _) rfl (fun K hK => ?_) (AllReadyH.cons (o := _) rfl (fun K hK => ?_) AllReadyH.nil)
                · refine to_call 17 28 _ _ #[.slice (some ⟨v324.heap.size, 0, none⟩) 1 1] _ rfl rfl rfl rfl enters_Tree (TB.out v326 v324.heap.size (z325.row _ rfl) z325.st.below) (fun e v328 h5 => ⟨_, h5.1, ?_⟩)
                  have z327 := z325.step h5.2
                  refine hK.out _ _ z327.st.below fun _ => ?_
                  clear h5
                  simp only [Act.put, List.setIfInBounds_toArray, List.set_cons_zero, List.set_cons_succ]
                  clear hK
                  refine wpAnyH_ready (rs := [7]) (by kernel_rfl) (by simp) ?_
                  refine AllReadyH.cons (o := _) rfl (fun K hK => ?_) AllReadyH.nil
                  · have z329 := z327.new1
                    refine to_alloc 7 rfl rfl rfl (hK.out _ _ z329.st.below fun _ => ?_)
                    revert z329; generalize World.alloc v328 _ = v330; intro z329
                    simp only [Act.put, List.setIfInBounds_toArray, List.set_cons_zero, List.set_cons_succ]
                    clear hK
                    refine wpAnyH_ready (rs := [9]) (by kernel_rfl) (by simp) ?_
                    refine AllReadyH.cons (o := _) rfl (fun K hK => ?_) AllReadyH.nil
                    · have z331 := z329.st.set1 T1
                      refine to_store (.tmp 7) (.tmp 25) rfl rfl rfl v328.heap.size (flb 32 []) T1 rfl rfl (z329.st.one _ _ rfl).1 (by simp [flb]) HT1.out (hK.out _ _ z331.below fun _ => ?_)
                      revert z331; generalize World.setRow v330 _ _ = v332; intro z331
                      clear hK
                      refine wpAnyH_ready (rs := [10]) (by kernel_rfl) (by simp) ?_
                      refine AllReadyH.cons (o := _) rfl (fun K hK => ?_) AllReadyH.nil
                      · have z333 := z331.set2 T2
                        refine to_store (.tmp 8) (.tmp 28) rfl rfl rfl v0.heap.size (flb 32 []) T2 rfl rfl (z331.two _ _ rfl).1 (by simp [flb]) HT2.out (hK.out _ _ z333.below fun _ => ?_)
                        revert z333; generalize World.setRow v332 _ _ = v334; intro z333
                        clear hK
                        refine wpAnyH_done (by kernel_rfl) (NoPanic.normal ?_) _
                        have HE := Lib.hid z333
                        go_wp2_with fail
                        go_meet
                        exact ⟨_, _, rfl, rfl, HE.out⟩
                · have z335 := z325.new1
                  refine to_alloc 7 rfl rfl rfl (hK.out _ _ z335.st.below fun _ => ?_)
                  revert z335; generalize World.alloc v326 _ = v336; intro z335
                  simp only [Act.put, List.setIfInBounds_toArray, List.set_cons_zero, List.set_cons_succ]
                  clear hK
                  refine wpAnyH_ready (rs := [6]) (by kernel_rfl) (by simp) ?_
                  refine AllReadyH.cons (o := _) rfl (fun K hK => ?_) AllReadyH.nil
                  · refine to_call 17 28 _ _ #[.slice (some ⟨v324.heap.size, 0, none⟩) 1 1] _ rfl rfl rfl rfl enters_Tree (TB.out v336 v324.heap.size (z335.row _ rfl) z335.st.below) (fun e v338 h5 => ⟨_, h5.1, ?_⟩)
                    have z337 := z335.step h5.2
                    refine hK.out _ _ z337.st.below fun _ => ?_
                    clear h5
                    simp only [Act.put, List.setIfInBounds_toArray, List.set_cons_zero, List.set_cons_succ]
                    clear hK
                    refine wpAnyH_ready (rs := [9]) (by kernel_rfl) (by simp) ?_
                    refine AllReadyH.cons (o := _) rfl (fun K hK => ?_) AllReadyH.nil
                    · have z339 := z337.st.set1 T1
                      refine to_store (.tmp 7) (.tmp 25) rfl rfl rfl v326.heap.size (flb 32 []) T1 rfl rfl (z337.st.one _ _ rfl).1 (by simp [flb]) HT1.out (hK.out _ _ z339.below fun _ => ?_)
                      revert z339; generalize World.setRow v338 _ _ = v340; intro z339
                      clear hK
                      refine wpAnyH_ready (rs := [10]) (by kernel_rfl) (by simp) ?_
                      refine AllReadyH.cons (o := _) rfl (fun K hK => ?_) AllReadyH.nil
                      · have z341 := z339.set2 T2
                        refine to_store (.tmp 8) (.tmp 28) rfl rfl rfl v0.heap.size (flb 32 []) T2 rfl rfl (z339.two _ _ rfl).1 (by simp [flb]) HT2.out (hK.out _ _ z341.below fun _ => ?_)
                        revert z341; generalize World.setRow v340 _ _ = v342; intro z341
                        clear hK
                        refine wpAnyH_done (by kernel_rfl) (NoPanic.normal ?_) _
                        have HE := Lib.hid z341
                        go_wp2_with fail
                        go_meet
                        exact ⟨_, _, rfl, rfl, HE.out⟩
              · have z343 := z323.new1
                refine to_alloc 7 rfl rfl rfl (hK.out _ _ z343.st.below fun _ => ?_)
                revert z343; generalize World.alloc v324 _ = v344; intro z343
                simp only [Act.put, List.setIfInBounds_toArray, List.set_cons_zero, List.set_cons_succ]
                clear hK
                refine wpAnyH_ready (rs := [5]) (by kernel_rfl) (by simp) ?_
                refine AllReadyH.cons (o := _) rfl (fun K hK => ?_) AllReadyH.nil
                · have z345 := z343.mkrow
                  refine to_bs1 27 (.tmp 26) d rfl rfl rfl rfl HD.out (hK.out _ _ z345.st.below fun _ => ?_)
                  revert z345; generalize World.alloc v344 _ = v346; intro z345
                  simp only [Act.put, List.setIfInBounds_toArray, List.set_cons_zero, List.set_cons_succ]
                  clear hK
                  refine wpAnyH_ready (rs := [6]) (by kernel_rfl) (by simp) ?_
                  refine AllReadyH.cons (o := _) rfl (fun K hK => ?_) AllReadyH.nil
                  · refine to_call 17 28 _ _ #[.slice (some ⟨v344.heap.size, 0, none⟩) 1 1] _ rfl rfl rfl rfl enters_Tree (TB.out v346 v344.heap.size (z345.row _ rfl) z345.st.below) (fun e v348 h5 => ⟨_, h5.1, ?_⟩)
                    have z347 := z345.step h5.2
                    refine hK.out _ _ z347.st.below fun _ => ?_
                    clear h5
                    simp only [Act.put, List.setIfInBounds_toArray, List.set_cons_zero, List.set_cons_succ]
                    clear hK
                    refine wpAnyH_ready (rs := [9]) (by kernel_rfl) (by simp) ?_
                    refine AllReadyH.cons (o := _) rfl (fun K hK => ?_) AllReadyH.nil
                    · have z349 := z347.st.set1 T1
                      refine to_store (.tmp 7) (.tmp 25) rfl rfl rfl v324.heap.size (flb 32 []) T1 rfl rfl (z347.st.one _ _ rfl).1 (by simp [flb]) HT1.out (hK.out _ _ z349.below fun _ => ?_)
                      revert z349; generalize World.setRow v348 _ _ = v350; intro z349
                      clear hK
                      refine wpAnyH_ready (rs := [10]) (by kernel_rfl) (by simp) ?_
                      refine AllReadyH.cons (o := _) rfl (fun K hK => ?_) AllReadyH.nil
                      · have z351 := z349.set2 T2
                        refine to_store (.tmp 8) (.tmp 28) rfl rfl rfl v0.heap.size (flb 32 []) T2 rfl rfl (z349.two _ _ rfl).1 (by simp [flb]) HT2.out (hK.out _ _ z351.below fun _ => ?_)
                        revert z351; generalize World.setRow v350 _ _ = v352; intro z351
                        clear hK
                        refine wpAnyH_done (by kernel_rfl) (NoPanic.normal ?_) _
                        have HE := Lib.hid z351
                        go_wp2_with fail
                        go_meet
                        exact ⟨_, _, rfl, rfl, HE.out⟩
            · have z353 := z321.mkrow
              refine to_bs1 27 (.tmp 26) d rfl rfl rfl rfl HD.out (hK.out _ _ z353.st.below fun _ => ?_)
              revert z353; generalize World.alloc v322 _ = v354; intro z353
              simp only [Act.put, List.setIfInBounds_toArray, List.set_cons_zero, List.set_cons_succ]
              clear hK
              refine wpAnyH_ready (rs := [3, 7]) (by kernel_rfl) (by simp) ?_
              refine AllReadyH.cons (o := _) rfl (fun K hK => ?_) (AllReadyH.cons (o := _) rfl (fun K hK => ?_) AllReadyH.nil)
              · refine to_call 17 25 _ _ #[.slice (some ⟨bb, oo, none⟩) n c3] _ rfl rfl rfl rfl enters_Tree (TA.out v354 z353.st.below) (fun e v356 h5 => ⟨_, h5.1, ?_⟩)
                have z355 := z353.step h5.2
                refine hK.out _ _ z355.st.below fun _ => ?_
                clear h5
                simp only [Act.put, List.setIfInBounds_toArray, List.set_cons_zero, List.set_cons_succ]
                clear hK
                refine wpAnyH_ready (rs := [6, 7]) (by kernel_rfl) (by simp) ?_
                refine AllReadyH.cons (o := _) rfl (fun K hK => ?_) (AllReadyH.cons (o := _) rfl (fun K hK => ?_) AllReadyH.nil)
                · refine to_call 17 28 _ _ #[.slice (some ⟨v322.heap.size, 0, none⟩) 1 1] _ rfl rfl rfl rfl enters_Tree (TB.out v356 v322.heap.size (z355.row _ rfl) z355.st.below) (fun e v358 h5 => ⟨_, h5.1, ?_⟩)
                  have z357 := z355.step h5.2
                  refine hK.out _ _ z357.st.below fun _ => ?_
                  clear h5
                  simp only [Act.put, List.setIfInBounds_toArray, List.set_cons_zero, List.set_cons_succ]
                  clear hK
                  refine wpAnyH_ready (rs := [7]) (by kernel_rfl) (by simp) ?_
                  refine AllReadyH.cons (o := _) rfl (fun K hK => ?_) AllReadyH.nil
                  · have z359 := z357.new1
                    refine to_alloc 7 rfl rfl rfl (hK.out _ _ z359.st.below fun _ => ?_)
                    revert z359; generalize World.alloc v358 _ = v360; intro z359
                    simp only [Act.put, List.setIfInBounds_toArray, List.set_cons_zero, List.set_cons_succ]
                    clear hK
                    refine wpAnyH_ready (rs := [9]) (by kernel_rfl) (by simp) ?_
                    refine AllReadyH.cons (o := _) rfl (fun K hK => ?_) AllReadyH.nil
                    · have z361 := z359.st.set1 T1
                      refine to_store (.tmp 7) (.tmp 25) rfl rfl rfl v358.heap.size (flb 32 []) T1 rfl rfl (z359.st.one _ _ rfl).1 (by simp [flb]) HT1.out (hK.out _ _ z361.below fun _ => ?_)
                      revert z361; generalize World.setRow v360 _ _ = v362; intro z361
                      clear hK
                      refine wpAnyH_ready (rs := [10]) (by kernel_rfl) (by simp) ?_
                      refine AllReadyH.cons (o := _) rfl (fun K hK => ?_) AllReadyH.nil
                      · have z363 := z361.set2 T2
                        refine to_store (.tmp 8) (.tmp 28) rfl rfl rfl v0.heap.size (flb 32 []) T2 rfl rfl (z361.two _ _ rfl).1 (by simp [flb]) HT2.out (hK.out _ _ z363.below fun _ => ?_)
                        revert z363; generalize World.setRow v362 _ _ = v364; intro z363
                        clear hK
                        refine wpAnyH_done (by kernel_rfl) (NoPanic.normal ?_) _
                        have HE := Lib.hid z363
                        go_wp2_with fail
                        go_meet
                        exact ⟨_, _, rfl, rfl, HE.out⟩
                · have z365 := z355.new1
                  refine to_alloc 7 rfl rfl rfl (hK.out _ _ z365.st.below fun _ => ?_)
                  revert z365; generalize World.alloc v356 _ = v366; intro z365
                  simp only [Act.put, List.setIfInBounds_toArray, List.set_cons_zero, List.set_cons_succ]
                  clear hK
                  refine wpAnyH_ready (rs := [6]) (by kernel_rfl) (by simp) ?_
                  refine AllReadyH.cons (o := _) rfl (fun K hK => ?_) AllReadyH.nil
                  · refine to_call 17 28 _ _ #[.slice (some ⟨v322.heap.size, 0, none⟩) 1 1] _ rfl rfl rfl rfl enters_Tree (TB.out v366 v322.heap.size (z365.row _ rfl) z365.st.below) (fun e v368 h5 => ⟨_, h5.1, ?_⟩)
                    have z367 := z365.step h5.2
                    refine hK.out _ _ z367.st.below fun _ => ?_
                    clear h5
                    simp only [Act.put, List.setIfInBounds_toArray, List.set_cons_zero, List.set_cons_succ]
                    clear hK
                    refine wpAnyH_ready (rs := [9]) (by kernel_rfl) (by simp) ?_
                    refine AllReadyH.cons (o := _) rfl (fun K hK => ?_) AllReadyH.nil
                    · have z369 := z367.st.set1 T1
                      refine to_store (.tmp 7) (.tmp 25) rfl rfl rfl v356.heap.size (flb 32 []) T1 rfl rfl (z367.st.one _ _ rfl).1 (by simp [flb]) HT1.out (hK.out _ _ z369.below fun _ => ?_)
                      revert z369; generalize World.setRow v368 _ _ = v370; intro z369
                      clear hK
                      refine wpAnyH_ready (rs := [10]) (by kernel_rfl) (by simp) ?_
                      refine AllReadyH.cons (o := _) rfl (fun K hK => ?_) AllReadyH.nil
                      · have z371 := z369.set2 T2
                        refine to_store (.tmp 8) (.tmp 28) rfl rfl rfl v0.heap.size (flb 32 []) T2 rfl rfl (z369.two _ _ rfl).1 (by simp [flb]) HT2.out (hK.out _ _ z371.below fun _ => ?_)
                        revert z371; generalize World.setRow v370 _ _ = v372; intro z371
                        clear hK
                        refine wpAnyH_done (by kernel_rfl) (NoPanic.normal ?_) _
                        have HE := Lib.hid z371
                        go_wp2_with fail
                        go_meet
                        exact ⟨_, _, rfl, rfl, HE.out⟩
              · have z373 := z353.new1
                refine to_alloc 7 rfl rfl rfl (hK.out _ _ z373.st.below fun _ => ?_)
                revert z373; generalize World.alloc v354 _ = v374; intro z373
                simp only [Act.put, List.setIfInBounds_toArray, List.set_cons_zero, List.set_cons_succ]
                clear hK
                refine wpAnyH_ready (rs := [3]) (by kernel_rfl) (by simp) ?_
                refine AllReadyH.cons (o := _) rfl (fun K hK => ?_) AllReadyH.nil
                · refine to_call 17 25 _ _ #[.slice (some ⟨bb, oo, none⟩) n c3] _ rfl rfl rfl rfl enters_Tree (TA.out v374 z373.st.below) (fun e v376 h5 => ⟨_, h5.1, ?_⟩)
                  have z375 := z373.step h5.2
                  refine hK.out _ _ z375.st.below fun _ => ?_
                  clear h5
                  simp only [Act.put, List.setIfInBounds_toArray, List.set_cons_zero, List.set_cons_succ]
                  clear hK
                  refine wpAnyH_ready (rs := [6]) (by kernel_rfl) (by simp) ?_
                  refine AllReadyH.cons (o := _) rfl (fun K hK => ?_) AllReadyH.nil
                  · refine to_call 17 28 _ _ #[.slice (some ⟨v322.heap.size, 0, none⟩) 1 1] _ rfl rfl rfl rfl enters_Tree (TB.out v376 v322.heap.size (z375.row _ rfl) z375.st.below) (fun e v378 h5 => ⟨_, h5.1, ?_⟩)
                    have z377 := z375.step h5.2
                    refine hK.out _ _ z377.st.below fun _ => ?_
                    clear h5
                    simp only [Act.put, List.setIfInBounds_toArray, List.set_cons_zero, List.set_cons_succ]
                    clear hK
                    refine wpAnyH_ready (rs := [9]) (by kernel_rfl) (by simp) ?_
                    refine AllReadyH.cons (o := _) rfl (fun K hK => ?_) AllReadyH.nil
                    · have z379 := z377.st.set1 T1
                      refine to_store (.tmp 7) (.tmp 25) rfl rfl rfl v354.heap.size (flb 32 []) T1 rfl rfl (z377.st.one _ _ rfl).1 (by simp [flb]) HT1.out (hK.out _ _ z379.below fun _ => ?_)
                      revert z379; generalize World.setRow v378 _ _ = v380; intro z379
                      clear hK
                      refine wpAnyH_ready (rs := [10]) (by kernel_rfl) (by simp) ?_
                      refine AllReadyH.cons (o := _) rfl (fun K hK => ?_) AllReadyH.nil
                      · have z381 := z379.set2 T2
                        refine to_store (.tmp 8) (.tmp 28) rfl rfl rfl v0.heap.size (flb 32 []) T2 rfl rfl (z379.two _ _ rfl).1 (by simp [flb]) HT2.out (hK.out _ _ z381.below fun _ => ?_)
                        revert z381; generalize World.setRow v380 _ _ = v382; intro z381
                        clear hK
                        refine wpAnyH_done (by kernel_rfl) (NoPanic.normal ?_) _
                        have HE := Lib.hid z381
                        go_wp2_with fail
                        go_meet
                        exact ⟨_, _, rfl, rfl, HE.out⟩
            · have z383 := z321.new1
              refine to_alloc 7 rfl rfl rfl (hK.out _ _ z383.st.below fun _ => ?_)
              revert z383; generalize World.alloc v322 _ = v384; intro z383
              simp only [Act.put, List.setIfInBounds_toArray, List.set_cons_zero, List.set_cons_succ]
              clear hK
              refine wpAnyH_ready (rs := [3, 5]) (by kernel_rfl) (by simp) ?_
              refine AllReadyH.cons (o := _) rfl (fun K hK => ?_) (AllReadyH.cons (o := _) rfl (fun K hK => ?_) AllReadyH.nil)
              · refine to_call 17 25 _ _ #[.slice (some ⟨bb, oo, none⟩) n c3] _ rfl rfl rfl rfl enters_Tree (TA.out v384 z383.st.below) (fun e v386 h5 => ⟨_, h5.1, ?_⟩)
                have z385 := z383.step h5.2
                refine hK.out _ _ z385.st.below fun _ => ?_
                clear h5
                simp only [Act.put, List.setIfInBounds_toArray, List.set_cons_zero, List.set_cons_succ]
                clear hK
                refine wpAnyH_ready (rs := [5]) (by kernel_rfl) (by simp) ?_
                refine AllReadyH.cons (o := _) rfl (fun K hK => ?_) AllReadyH.nil
                · have z387 := z385.mkrow
                  refine to_bs1 27 (.tmp 26) d rfl rfl rfl rfl HD.out (hK.out _ _ z387.st.below fun _ => ?_)
                  revert z387; generalize World.alloc v386 _ = v388; intro z387
                  simp only [Act.put, List.setIfInBounds_toArray, List.set_cons_zero, List.set_cons_succ]
                  clear hK
                  refine wpAnyH_ready (rs := [6]) (by kernel_rfl) (by simp) ?_
                  refine AllReadyH.cons (o := _) rfl (fun K hK => ?_) AllReadyH.nil
                  · refine to_call 17 28 _ _ #[.slice (some ⟨v386.heap.size, 0, none⟩) 1 1] _ rfl rfl rfl rfl enters_Tree (TB.out v388 v386.heap.size (z387.row _ rfl) z387.st.below) (fun e v390 h5 => ⟨_, h5.1, ?_⟩)
                    have z389 := z387.step h5.2
                    refine hK.out _ _ z389.st.below fun _ => ?_
                    clear h5
                    simp only [Act.put, List.setIfInBounds_toArray, List.set_cons_zero, List.set_cons_succ]
                    clear hK
                    refine wpAnyH_ready (rs := [9]) (by kernel_rfl) (by simp) ?_
                    refine AllReadyH.cons (o := _) rfl (fun K hK => ?_) AllReadyH.nil
                    · have z391 := z389.st.set1 T1
                      refine to_store (.tmp 7) (.tmp 25) rfl rfl rfl v322.heap.size (flb 32 []) T1 rfl rfl (z389.st.one _ _ rfl).1 (by simp [flb]) HT1.out (hK.out _ _ z391.below fun _ => ?_)
                      revert z391; generalize World.setRow v390 _ _ = v392; intro z391
                      clear hK
                      refine wpAnyH_ready (rs := [10]) (by kernel_rfl) (by simp) ?_
                      refine AllReadyH.cons (o := _) rfl (fun K hK => ?_) AllReadyH.nil
                      · have z393 := z391.set2 T2
                        refine to_store (.tmp 8) (.tmp 28) rfl rfl rfl v0.heap.size (flb 32 []) T2 rfl rfl (z391.two _ _ rfl).1 (by simp [flb]) HT2.out (hK.out _ _ z393.below fun _ => ?_)
                        revert z393; generalize World.setRow v392 _ _ = v394; intro z393
                        clear hK
                        refine wpAnyH_done (by kernel_rfl) (NoPanic.normal ?_) _
                        have HE := Lib.hid z393
                        go_wp2_with fail
                        go_meet
                        exact ⟨_, _, rfl, rfl, HE.out⟩
              · have z395 := z383.mkrow
                refine to_bs1 27 (.tmp 26) d rfl rfl rfl rfl HD.out (hK.out _ _ z395.st.below fun _ => ?_)
                revert z395; generalize World.alloc v384 _ = v396; intro z395
                simp only [Act.put, List.setIfInBounds_toArray, List.set_cons_zero, List.set_cons_succ]
                clear hK
                refine wpAnyH_ready (rs := [3]) (by kernel_rfl) (by simp) ?_
                refine AllReadyH.cons (o := _) rfl (fun K hK => ?_) AllReadyH.nil
                · refine to_call 17 25 _ _ #[.slice (some ⟨bb, oo, none⟩) n c3] _ rfl rfl rfl rfl enters_Tree (TA.out v396 z395.st.below) (fun e v398 h5 => ⟨_, h5.1, ?_⟩)
                  have z397 := z395.step h5.2
                  refine hK.out _ _ z397.st.below fun _ => ?_
                  clear h5
                  simp only [Act.put, List.setIfInBounds_toArray, List.set_cons_zero, List.set_cons_succ]
                  clear hK
                  refine wpAnyH_ready (rs := [6]) (by kernel_rfl) (by simp) ?_
                  refine AllReadyH.cons (o := _) rfl (fun K hK => ?_) AllReadyH.nil
                  · refine to_call 17 28 _ _ #[.slice (some ⟨v384.heap.size, 0, none⟩) 1 1] _ rfl rfl rfl rfl enters_Tree (TB.out v398 v384.heap.size (z397.row _ rfl) z397.st.below) (fun e v400 h5 => ⟨_, h5.1, ?_⟩)
                    have z399 := z397.step h5.2
                    refine hK.out _ _ z399.st.below fun _ => ?_
                    clear h5
                    simp only [Act.put, List.setIfInBounds_toArray, List.set_cons_zero, List.set_cons_succ]
                    clear hK
                    refine wpAnyH_ready (rs := [9]) (by kernel_rfl) (by simp) ?_
                    refine AllReadyH.cons (o := _) rfl (fun K hK => ?_) AllReadyH.nil
                    · have z401 := z399.st.set1 T1
                      refine to_store (.tmp 7) (.tmp 25) rfl rfl rfl v322.heap.size (flb 32 []) T1 rfl rfl (z399.st.one _ _ rfl).1 (by simp [flb]) HT1.out (hK.out _ _ z401.below fun _ => ?_)
                      revert z401; generalize World.setRow v400 _ _ = v402; intro z401
                      clear hK
                      refine wpAnyH_ready (rs := [10]) (by kernel_rfl) (by simp) ?_
                      refine AllReadyH.cons (o := _) rfl (fun K hK => ?_) AllReadyH.nil
                      · have z403 := z401.set2 T2
                        refine to_store (.tmp 8) (.tmp 28) rfl rfl rfl v0.heap.size (flb 32 []) T2 rfl rfl (z401.two _ _ rfl).1 (by simp [flb]) HT2.out (hK.out _ _ z403.below fun _ => ?_)
                        revert z403; generalize World.setRow v402 _ _ = v404; intro z403
                        clear hK
                        refine wpAnyH_done (by kernel_rfl) (NoPanic.normal ?_) _
                        have HE := Lib.hid z403
                        go_wp2_with fail
                        go_meet
                        exact ⟨_, _, rfl, rfl, HE.out⟩
      case rest =>
        rename World => wA
        obtain ⟨g7, g8, rfl, rfl, hst⟩ := hcut
        have hbc := hst.below
        have hzc := hbc.size
        have HST := Lib.hid hst
        have HBC := Lib.hid hbc
        have KV := Lib.hid (show ∀ ww, Below wA.heap.size wA ww → Below w3.heap.size w3 ww from fun ww h => KW.out ww (HBC.out.trans (h.mono hzc)))
        have HDM := Lib.hid (show ∀ ww, Below wA.heap.size wA ww → DL ww (· < wA.heap.size) M (some ⟨bb, oo, none⟩) c3 from fun ww h => by
          rw [HM.out]
          exact ((KEEP.out wA (KV.out wA (Below.refl _ _))).1.take n).keep fun i hi => ⟨hi, h.block i hi⟩)
        have KR4 := Lib.hid (show ∀ ww, Below wA.heap.size wA ww → RowB ww w.heap.size 26 d from fun ww h => (KEEP.out ww (KV.out ww h)).2.2.1)
        have HMV := Lib.hid (show Value.slice (some ⟨bb, oo, none⟩) n c3 = .slice (some ⟨bb, oo, none⟩) M.length c3 by rw [HMN.out])
        have hMle : M.length ≤ 24 := by have := HMN.out; omega
        have HMLE := Lib.hid hMle
        clear hst hbc TA TB
        go_upto_region 8 with fail
        go_cut [9] from 29 to 36 (fun x wx => ∃ (A4 : Option Addr) (c4 : Nat), x = .slice A4 (([] ++ M : List (List UInt8)).length + [d].length) c4 ∧ OwnD wx wA.heap.size (.slice A4 (([] ++ M : List (List UInt8)).length + [d].length) c4) (([] ++ M) ++ [d]) ∧ Below wA.heap.size wA wx)
        case first =>
            refine wp_region_noPanic ?_
            have z0 := CZ.base wA d
            refine wp_region_held_drew (S := fun ww => Below wA.heap.size wA ww) (by kernel_rfl) z0.below (fun _ => ?_)
            revert z0; generalize World.drew wA = v0; intro z0
            refine tk_move 1 30 (.tmp 5) (.slice (some ⟨bb, oo, none⟩) L.length c3) rfl (by kernel_rfl) (by kernel_rfl) (by kernel_rfl) (fun _ _ _ _ h => h) rfl rfl rfl rfl z0.below ?_
            simp only [Act.put, List.setIfInBounds_toArray, List.set_cons_zero, List.set_cons_succ]
            refine tk_move 2 31 (.tmp 6) (.int .i64 n) rfl (by kernel_rfl) (by kernel_rfl) (by kernel_rfl) (fun _ _ _ _ h => h) rfl rfl rfl rfl z0.below ?_
            simp only [Act.put, List.setIfInBounds_toArray, List.set_cons_zero, List.set_cons_succ]
            refine tk_val 3 32 (.slice (some ⟨bb, oo, none⟩) n c3) rfl (by kernel_rfl) (by kernel_rfl) (by kernel_rfl) (fun _ _ _ _ h => h) rfl rfl (fun w _ => ev_slice_to (.tmp 30) (.tmp 31) bb oo L.length c3 n rfl rfl rfl (by omega)) z0.below ?_
            simp only [Act.put, List.setIfInBounds_toArray, List.set_cons_zero, List.set_cons_succ]
            refine tk_load 5 34 (.tmp 3) w.heap.size 0 d rfl (by kernel_rfl) (by kernel_rfl) (by kernel_rfl) (fun _ _ _ _ h => h) rfl rfl rfl rfl (fun w h => (KR4.out _ h).range) HD.out z0.below ?_
            simp only [Act.put, List.setIfInBounds_toArray, List.set_cons_zero, List.set_cons_succ]
            refine wpAnyH_ready (rs := [0, 6]) (by kernel_rfl) (by simp) ?_
            refine AllReadyH.cons (o := _) rfl (fun K hK => ?_) (AllReadyH.cons (o := _) rfl (fun K hK => ?_) AllReadyH.nil)
            · have z405 := z0.nil
              refine to_bs0 29 rfl rfl rfl (hK.out _ _ z405.below fun _ => ?_)
              revert z405; generalize World.alloc v0 _ = v406; intro z405
              simp only [Act.put, List.setIfInBounds_toArray, List.set_cons_zero, List.set_cons_succ]
              clear hK
              refine wpAnyH_ready (rs := [4, 6]) (by kernel_rfl) (by simp) ?_
              refine AllReadyH.cons (o := _) rfl (fun K hK => ?_) (AllReadyH.cons (o := _) rfl (fun K hK => ?_) AllReadyH.nil)
              · refine to_app 33 (.tmp 29) (.tmp 32) rfl rfl rfl wA.heap.size (.slice (some ⟨v0.heap.size, 0, none⟩) 0 0) (· < wA.heap.size) [] M (some ⟨bb, oo, none⟩) c3 rfl HMV.out (z405.own _ _ rfl) (HDM.out _ z405.below) (by simp; omega) z405.below.size (fun A409 c410 v408 hO hG hA => ?_)
                have z407 := z405.app hO hG hA
                refine hK.out _ _ z407.below fun _ => ?_
                clear hO hG hA
                simp only [Act.put, List.setIfInBounds_toArray, List.set_cons_zero, List.set_cons_succ]
                clear hK
                refine wpAnyH_ready (rs := [6]) (by kernel_rfl) (by simp) ?_
                refine AllReadyH.cons (o := _) rfl (fun K hK => ?_) AllReadyH.nil
                · have z411 := z407.mkrow
                  refine to_bs1 35 (.tmp 34) d rfl rfl rfl rfl HD.out (hK.out _ _ z411.below fun _ => ?_)
                  revert z411; generalize World.alloc v408 _ = v412; intro z411
                  simp only [Act.put, List.setIfInBounds_toArray, List.set_cons_zero, List.set_cons_succ]
                  clear hK
                  refine wpAnyH_ready (rs := [7]) (by kernel_rfl) (by simp) ?_
                  refine AllReadyH.cons (o := _) rfl (fun K hK => ?_) AllReadyH.nil
                  · refine to_app 36 (.tmp 33) (.tmp 35) rfl rfl rfl wA.heap.size (.slice A409 (([] : List (List UInt8)).length + M.length) c410) (· = v408.heap.size) ([] ++ M) [d] (some ⟨v408.heap.size, 0, none⟩) 1 rfl rfl (z411.own _ _ rfl) (DL.one (z411.row _ rfl).1 HD.out) (by simp; omega) z411.below.size (fun A415 c416 v414 hO hG hA => ?_)
                    have z413 := z411.app hO hG hA
                    refine hK.out _ _ z413.below fun _ => ?_
                    clear hO hG hA
                    simp only [Act.put, List.setIfInBounds_toArray, List.set_cons_zero, List.set_cons_succ]
                    clear hK
                    refine tk_assign 8 9 (.tmp 36) (.slice A415 (([] ++ M : List (List UInt8)).length + [d].length) c416) rfl (by kernel_rfl) (by kernel_rfl) (by kernel_rfl) (fun _ _ _ _ h => h) rfl rfl rfl rfl z413.below ?_
                    simp only [Act.put, List.setIfInBounds_toArray, List.set_cons_zero, List.set_cons_succ]
                    refine wpAnyH_done (by kernel_rfl) (NoPanic.normal ?_) _
                    have HE := Lib.hid z413.below
                    have HO := Lib.hid (z413.own _ _ rfl)
                    go_wp2_with fail
                    go_meet
                    exact ⟨_, _, rfl, HO.out, HE.out⟩
              · have z417 := z405.mkrow
                refine to_bs1 35 (.tmp 34) d rfl rfl rfl rfl HD.out (hK.out _ _ z417.below fun _ => ?_)
                revert z417; generalize World.alloc v406 _ = v418; intro z417
                simp only [Act.put, List.setIfInBounds_toArray, List.set_cons_zero, List.set_cons_succ]
                clear hK
                refine wpAnyH_ready (rs := [4]) (by kernel_rfl) (by simp) ?_
                refine AllReadyH.cons (o := _) rfl (fun K hK => ?_) AllReadyH.nil
                · refine to_app 33 (.tmp 29) (.tmp 32) rfl rfl rfl wA.heap.size (.slice (some ⟨v0.heap.size, 0, none⟩) 0 0) (· < wA.heap.size) [] M (some ⟨bb, oo, none⟩) c3 rfl HMV.out (z417.own _ _ rfl) (HDM.out _ z417.below) (by simp; omega) z417.below.size (fun A421 c422 v420 hO hG hA => ?_)
                  have z419 := z417.app hO hG hA
                  refine hK.out _ _ z419.below fun _ => ?_
                  clear hO hG hA
                  simp only [Act.put, List.setIfInBounds_toArray, List.set_cons_zero, List.set_cons_succ]
                  clear hK
                  refine wpAnyH_ready (rs := [7]) (by kernel_rfl) (by simp) ?_
                  refine AllReadyH.cons (o := _) rfl (fun K hK => ?_) AllReadyH.nil
                  · refine to_app 36 (.tmp 33) (.tmp 35) rfl rfl rfl wA.heap.size (.slice A421 (([] : List (List UInt8)).length + M.length) c422) (· = v406.heap.size) ([] ++ M) [d] (some ⟨v406.heap.size, 0, none⟩) 1 rfl rfl (z419.own _ _ rfl) (DL.one (z419.row _ rfl).1 HD.out) (by simp; omega) z419.below.size (fun A425 c426 v424 hO hG hA => ?_)
                    have z423 := z419.app hO hG hA
                    refine hK.out _ _ z423.below fun _ => ?_
                    clear hO hG hA
                    simp only [Act.put, List.setIfInBounds_toArray, List.set_cons_zero, List.set_cons_succ]
                    clear hK
                    refine tk_assign 8 9 (.tmp 36) (.slice A425 (([] ++ M : List (List UInt8)).length + [d].length) c426) rfl (by kernel_rfl) (by kernel_rfl) (by kernel_rfl) (fun _ _ _ _ h => h) rfl rfl rfl rfl z423.below ?_
                    simp only [Act.put, List.setIfInBounds_toArray, List.set_cons_zero, List.set_cons_succ]
                    refine wpAnyH_done (by kernel_rfl) (NoPanic.normal ?_) _
                    have HE := Lib.hid z423.below
                    have HO := Lib.hid (z423.own _ _ rfl)
                    go_wp2_with fail
                    go_meet
                    exact ⟨_, _, rfl, HO.out, HE.out⟩
            · have z427 := z0.mkrow
              refine to_bs1 35 (.tmp 34) d rfl rfl rfl rfl HD.out (hK.out _ _ z427.below fun _ => ?_)
              revert z427; generalize World.alloc v0 _ = v428; intro z427
              simp only [Act.put, List.setIfInBounds_toArray, List.set_cons_zero, List.set_cons_succ]
              clear hK
              refine wpAnyH_ready (rs := [0]) (by kernel_rfl) (by simp) ?_
              refine AllReadyH.cons (o := _) rfl (fun K hK => ?_) AllReadyH.nil
              · have z429 := z427.nil
                refine to_bs0 29 rfl rfl rfl (hK.out _ _ z429.below fun _ => ?_)
                revert z429; generalize World.alloc v428 _ = v430; intro z429
                simp only [Act.put, List.setIfInBounds_toArray, List.set_cons_zero, List.set_cons_succ]
                clear hK
                refine wpAnyH_ready (rs := [4]) (by kernel_rfl) (by simp) ?_
                refine AllReadyH.cons (o := _) rfl (fun K hK => ?_) AllReadyH.nil
                · refine to_app 33 (.tmp 29) (.tmp 32) rfl rfl rfl wA.heap.size (.slice (some ⟨v428.heap.size, 0, none⟩) 0 0) (· < wA.heap.size) [] M (some ⟨bb, oo, none⟩) c3 rfl HMV.out (z429.own _ _ rfl) (HDM.out _ z429.below) (by simp; omega) z429.below.size (fun A433 c434 v432 hO hG hA => ?_)
                  have z431 := z429.app hO hG hA
                  refine hK.out _ _ z431.below fun _ => ?_
                  clear hO hG hA
                  simp only [Act.put, List.setIfInBounds_toArray, List.set_cons_zero, List.set_cons_succ]
                  clear hK
                  refine wpAnyH_ready (rs := [7]) (by kernel_rfl) (by simp) ?_
                  refine AllReadyH.cons (o := _) rfl (fun K hK => ?_) AllReadyH.nil
                  · refine to_app 36 (.tmp 33) (.tmp 35) rfl rfl rfl wA.heap.size (.slice A433 (([] : List (List UInt8)).length + M.length) c434) (· = v0.heap.size) ([] ++ M) [d] (some ⟨v0.heap.size, 0, none⟩) 1 rfl rfl (z431.own _ _ rfl) (DL.one (z431.row _ rfl).1 HD.out) (by simp; omega) z431.below.size (fun A437 c438 v436 hO hG hA => ?_)
                    have z435 := z431.app hO hG hA
                    refine hK.out _ _ z435.below fun _ => ?_
                    clear hO hG hA
                    simp only [Act.put, List.setIfInBounds_toArray, List.set_cons_zero, List.set_cons_succ]
                    clear hK
                    refine tk_assign 8 9 (.tmp 36) (.slice A437 (([] ++ M : List (List UInt8)).length + [d].length) c438) rfl (by kernel_rfl) (by kernel_rfl) (by kernel_rfl) (fun _ _ _ _ h => h) rfl rfl rfl rfl z435.below ?_
                    simp only [Act.put, List.setIfInBounds_toArray, List.set_cons_zero, List.set_cons_succ]
                    refine wpAnyH_done (by kernel_rfl) (NoPanic.normal ?_) _
                    have HE := Lib.hid z435.below
                    have HO := Lib.hid (z435.own _ _ rfl)
                    go_wp2_with fail
                    go_meet
                    exact ⟨_, _, rfl, HO.out, HE.out⟩
        case rest =>
          rename World => wx
          obtain ⟨A4, c4, rfl, hown, hb4⟩ := hcut
          rw [List.nil_append, show M.length + [d].length = n + 1 by rw [HMN.out]; rfl] at hown ⊢
          obtain ⟨A4', c4', e4, hd4⟩ := hown.dl
          injection e4 with e41 e43 e42
          clear e43
          subst e41 e42
          have hz4 := hb4.size
          have HB4 := Lib.hid hb4
          have hl4 : (M ++ [d]).length = n + 1 := by rw [List.length_append, HMN.out]; rfl
          have HL4 := Lib.hid hl4
          have HD4 := Lib.hid (show ∀ ww, Below wx.heap.size wx ww → DL ww (· < ww.heap.size) (M ++ [d]) A4 c4 from fun ww h => hd4.keep fun i hi => ⟨by have := h.size; omega, h.block i hi.2⟩)
          have CP := Lib.hid (show Calls Tryd.prog 19 #[.slice A4 (n + 1) c4, .int .i64 n] wx fun e w' => ∃ A' c', e = .returned (.tuple #[.slice A' 1 c', .int .i64 0]) ∧ OwnD w' wx.heap.size (.slice A' 1 c') [T1] ∧ Below wx.heap.size wx w' by
            have := path_yes F0 (M ++ [d]) n A4 c4 wx (by omega) (by omega) (by omega) (HD4.out wx (Below.refl _ _)) (KEEP.out _ (KV.out _ hb4)).2.1
            rw [HPN.out, hl4] at this
            exact this)
          clear hown hd4 hb4 HMV hl4
          go_wp2_with fail

          with_reducible refine CP.out.mono ?_
          rintro e wp ⟨A5, c5, rfl, hown5, hb5⟩
          obtain ⟨A5', c5', e5, hd5⟩ := hown5.dl
          injection e5 with e51 e53 e52
          clear e53
          subst e51 e52
          obtain ⟨gp, op, rfl, hSp, hat5⟩ := hd5.2.2.2.2 (by simp)
          have hrp := hat5 0 T1 rfl
          have hz5 := hb5.size
          have KE := Lib.hid (show ∀ ww, Below wp.heap.size wp ww → RowB ww g7 26 T1 ∧ RowB ww g8 26 T2 ∧ KR ww Kt ∧ ww.rangeAt gp (op + 0 * 32) (U T1) ∧ Below w3.heap.size w3 ww from fun ww h => by
            have hx : Below wx.heap.size wx ww := hb5.trans (h.mono hz5)
            have hc : Below wA.heap.size wA ww := HB4.out.trans (hx.mono hz4)
            have hs := HST.out.step hc
            exact ⟨(hs.one _ _ rfl).1, (hs.two _ _ rfl).1, (KEEP.out _ (KV.out _ hc)).2.1, fun j u hu => (World.cell?_of_block (h.block gp hSp.2)).trans (hrp j u hu), KV.out _ hc⟩)
          have TN := Lib.hid (show ∀ ww, Below wp.heap.size wp ww → Calls Tryd.prog 17 #[.slice A4 (n + 1) c4] ww fun e w' => e = .returned (.agg (U T3).toArray) ∧ Below ww.heap.size ww w' from fun ww h => by
            have hx : Below wx.heap.size wx ww := hb5.trans (h.mono hz5)
            have := tree_all F0 (M ++ [d]) A4 c4 ww (by rw [HL4.out]; omega) (by omega) (HD4.out ww hx) (KE.out ww h).2.2.1
            rwa [HTN.out, HL4.out] at this)
          clear CP hown5 hd5 hat5 hrp hb5
          go_upto_region 10 with fail
          refine wp_region_noPanic ?_
          have h0 : Below wp.heap.size wp wp.drew := (Below.refl _ _).drew
          refine wp_region_held_drew (S := fun ww => Below wp.heap.size wp ww) (by kernel_rfl) h0 (fun _ => ?_)
          revert h0; generalize World.drew wp = v0; intro h0
          refine tk_move 0 43 (.tmp 9) (.slice A4 (n + 1) c4) rfl (by kernel_rfl) (by kernel_rfl) (by kernel_rfl) (fun _ _ _ _ h => h) rfl rfl rfl rfl h0 ?_
          simp only [Act.put, List.setIfInBounds_toArray, List.set_cons_zero, List.set_cons_succ]
          refine tk_val 3 46 (.slice (some ⟨g7, 0, none⟩) 32 32) rfl (by kernel_rfl) (by kernel_rfl) (by kernel_rfl) (fun _ _ _ _ h => h) rfl rfl (fun w _ => ev_arr (.tmp 7) g7 rfl rfl) h0 ?_
          simp only [Act.put, List.setIfInBounds_toArray, List.set_cons_zero, List.set_cons_succ]
          refine tk_val 5 48 (.slice (some ⟨g8, 0, none⟩) 32 32) rfl (by kernel_rfl) (by kernel_rfl) (by kernel_rfl) (fun _ _ _ _ h => h) rfl rfl (fun w _ => ev_arr (.tmp 8) g8 rfl rfl) h0 ?_
          simp only [Act.put, List.setIfInBounds_toArray, List.set_cons_zero, List.set_cons_succ]
          refine wpAnyH_ready (rs := [1, 2]) (by kernel_rfl) (by simp) ?_
          refine AllReadyH.cons (o := _) rfl (fun K hK => ?_) (AllReadyH.cons (o := _) rfl (fun K hK => ?_) AllReadyH.nil)
          · refine to_call 17 44 _ _ #[.slice A4 (n + 1) c4] _ rfl rfl rfl rfl enters_Tree (TN.out v0 h0) (fun e v439 h5 => ⟨_, h5.1, ?_⟩)
            have h440 := h0.trans (h5.2.mono h0.size)
            refine hK.out _ _ h440 fun _ => ?_
            clear h5
            simp only [Act.put, List.setIfInBounds_toArray, List.set_cons_zero, List.set_cons_succ]
            clear hK
            refine wpAnyH_ready (rs := [2]) (by kernel_rfl) (by simp) ?_
            refine AllReadyH.cons (o := _) rfl (fun K hK => ?_) AllReadyH.nil
            have h442 := h440.alloc h440.size (.cells #[] 5)
            have ho443 := (own_row v439 #[] 0 rfl (by simp only [maxLen]; omega)).base (b' := wp.heap.size) h440.size
            refine to_bs0u 45 rfl rfl rfl (hK.out _ _ h442 fun _ => ?_)
            simp only [Act.put, List.setIfInBounds_toArray, List.set_cons_zero, List.set_cons_succ]
            clear hK
            generalize hs445 : v439.heap.size = s444
            rw [hs445] at ho443
            clear hs445
            revert h442 ho443; generalize World.alloc v439 _ = v441; intro h442 ho443
            refine lone 4 (by kernel_rfl) rfl (fun K5 hK5 => ?_)
            rw [if_pos (show Region.wanted _ _ = true from rfl)]
            refine wp_app_at 47 (.tmp 45) (.tmp 46) rfl rfl wp.heap.size (.slice (some ⟨s444, 0, none⟩) 0 0) _ _ _ [] T1 rfl (by rw [HT1.out]; rfl) ho443 ((KE.out _ h442).1.b32 HT1.out) (by rw [HT1.out]; simp) h442.size (fun w6' v6 ho6 hg6 => ?_)
            have h6 := below_own h442 hg6 ho443 (Nat.le_refl _) h442.size
            obtain ⟨A6, c6, rfl⟩ := ho6.slice
            refine hK5 _ _ h6 ?_
            simp only [Act.put, List.setIfInBounds_toArray, List.set_cons_zero, List.set_cons_succ]
            clear hK5 hg6 ho443
            refine lone 6 (by kernel_rfl) rfl (fun K5 hK5 => ?_)
            rw [if_pos (show Region.wanted _ _ = true from rfl)]
            refine wp_app_at 49 (.tmp 47) (.tmp 48) rfl rfl wp.heap.size _ _ _ _ ([] ++ T1) T2 rfl (by rw [HT2.out]; rfl) ho6 ((KE.out _ h6).2.1.b32 HT2.out) (by simp [HT1.out, HT2.out]) h6.size (fun w7' v7 ho7 hg7 => ?_)
            have h7 := below_own h6 hg7 ho6 (Nat.le_refl _) h6.size
            obtain ⟨A7, c7, rfl, hy7⟩ := ho7.byt
            refine hK5 _ _ h7 ?_
            simp only [Act.put, List.setIfInBounds_toArray, List.set_cons_zero, List.set_cons_succ]
            clear hK5 hg7 ho6
            refine lone 7 (by kernel_rfl) rfl (fun K5 hK5 => ?_)
            rw [if_pos (show Region.wanted _ _ = true from rfl)]
            have hy7' := hy7.keep (w' := v7) (S' := (· < v7.heap.size)) fun i hi => ⟨hi.2, rfl⟩
            have hlen7 : (([] ++ T1) ++ T2).length ≤ 1000000 := by simp [HT1.out, HT2.out]
            have CT := Lib.hid (tagged_all nodeT (([] ++ T1) ++ T2) A7 c7 v7 (by decide) hlen7 hy7' (KE.out _ h7).2.2.1)
            clear hy7' hlen7
            obtain ⟨TT, hTT⟩ : ∃ TT, TT = tagd nodeT.data.toList (([] ++ T1) ++ T2) := ⟨_, rfl⟩
            have HTT := Lib.hid (show TT = T3 from hTT.trans HT3.out.symm)
            rw [← hTT] at CT
            clear hTT
            rw [HTT.out] at CT
            clear HTT TT
            obtain ⟨n7, hn7⟩ : ∃ n7, n7 = (([] ++ T1) ++ T2).length := ⟨_, rfl⟩
            rw [← hn7] at CT ⊢
            clear hn7
            refine wp_call 14 50 _ _ #[.string nodeT, .slice A7 n7 c7] _ rfl rfl rfl enters_Tagged CT.out (fun e w8 h8 => ⟨_, h8.1, ?_⟩)
            have h9 := h7.trans (h8.2.mono h7.size)
            refine hK5 _ _ h9 ?_
            simp only [Act.put, List.setIfInBounds_toArray, List.set_cons_zero, List.set_cons_succ]
            clear hK5 ho7 hy7 h8
            refine tk_val 8 51 (.bool false) rfl (by kernel_rfl) (by kernel_rfl) (by kernel_rfl) (fun _ _ _ _ h => h) rfl rfl (fun w _ => ev_neq (.tmp 44) (.tmp 50) T3 HT3L.out rfl (by kernel_rfl) (by kernel_rfl)) h9 ?_
            simp only [Act.put, List.setIfInBounds_toArray, List.set_cons_zero, List.set_cons_succ]
            refine tk_move 9 52 (.tmp 51) (.bool false) rfl (by kernel_rfl) (by kernel_rfl) (by kernel_rfl) (fun _ _ _ _ h => h) rfl rfl rfl (by kernel_rfl) h9 ?_
            simp only [Act.put, List.setIfInBounds_toArray, List.set_cons_zero, List.set_cons_succ]
            refine tkw_val 10 53 (.int .i64 0) rfl (by kernel_rfl) (by kernel_rfl) (by kernel_rfl) (fun _ _ _ _ h => h) (by simp [Region.wanted, yielded]) rfl (fun w _ => ev_move (.tmp 11) _ rfl (by kernel_rfl)) h9 ?_
            simp only [Act.put, List.setIfInBounds_toArray, List.set_cons_zero, List.set_cons_succ]
            refine tkw_val 11 54 (.bool false) rfl (by kernel_rfl) (by kernel_rfl) (by kernel_rfl) (fun _ _ _ _ h => h) (by simp [Region.wanted, yielded]) rfl (fun w _ => ev_neqi 34 (.tmp 53) (.const (.int .i64 0)) 0 rfl Tryd.underlying34 (by kernel_rfl) (by kernel_rfl)) h9 ?_
            simp only [Act.put, List.setIfInBounds_toArray, List.set_cons_zero, List.set_cons_succ]
            refine tk_val 12 55 (.bool false) rfl (by kernel_rfl) (by kernel_rfl) (by kernel_rfl) (fun _ _ _ _ h => h) rfl rfl (fun w _ => ev_pick (.tmp 52) (.const (.bool true)) (.tmp 54) rfl (by kernel_rfl) (by kernel_rfl)) h9 ?_
            simp only [Act.put, List.setIfInBounds_toArray, List.set_cons_zero, List.set_cons_succ]
            refine tk_move 13 56 (.tmp 55) (.bool false) rfl (by kernel_rfl) (by kernel_rfl) (by kernel_rfl) (fun _ _ _ _ h => h) rfl rfl rfl (by kernel_rfl) h9 ?_
            simp only [Act.put, List.setIfInBounds_toArray, List.set_cons_zero, List.set_cons_succ]
            refine tkw_val 14 57 (.slice (some ⟨gp, op, none⟩) 1 c5) rfl (by kernel_rfl) (by kernel_rfl) (by kernel_rfl) (fun _ _ _ _ h => h) (by simp [Region.wanted, yielded]) rfl (fun w _ => ev_move (.tmp 10) _ rfl (by kernel_rfl)) h9 ?_
            simp only [Act.put, List.setIfInBounds_toArray, List.set_cons_zero, List.set_cons_succ]
            refine tkw_val 15 58 (.int .i64 1) rfl (by kernel_rfl) (by kernel_rfl) (by kernel_rfl) (fun _ _ _ _ h => h) (by simp [Region.wanted, yielded]) rfl (fun w _ => ev_len (.tmp 57) (some ⟨gp, op, none⟩) 1 c5 rfl (by kernel_rfl)) h9 ?_
            simp only [Act.put, List.setIfInBounds_toArray, List.set_cons_zero, List.set_cons_succ]
            refine tkw_val 16 59 (.bool false) rfl (by kernel_rfl) (by kernel_rfl) (by kernel_rfl) (fun _ _ _ _ h => h) (by simp [Region.wanted, yielded]) rfl (fun w _ => ev_neqi 3 (.tmp 58) (.const (.int .i64 1)) 1 rfl Tryd.underlying3 (by kernel_rfl) (by kernel_rfl)) h9 ?_
            simp only [Act.put, List.setIfInBounds_toArray, List.set_cons_zero, List.set_cons_succ]
            refine tk_val 17 60 (.bool false) rfl (by kernel_rfl) (by kernel_rfl) (by kernel_rfl) (fun _ _ _ _ h => h) rfl rfl (fun w _ => ev_pick (.tmp 56) (.const (.bool true)) (.tmp 59) rfl (by kernel_rfl) (by kernel_rfl)) h9 ?_
            simp only [Act.put, List.setIfInBounds_toArray, List.set_cons_zero, List.set_cons_succ]
            refine tk_move 18 61 (.tmp 60) (.bool false) rfl (by kernel_rfl) (by kernel_rfl) (by kernel_rfl) (fun _ _ _ _ h => h) rfl rfl rfl (by kernel_rfl) h9 ?_
            simp only [Act.put, List.setIfInBounds_toArray, List.set_cons_zero, List.set_cons_succ]
            refine tkw_val 19 62 (.slice (some ⟨gp, op, none⟩) 1 c5) rfl (by kernel_rfl) (by kernel_rfl) (by kernel_rfl) (fun _ _ _ _ h => h) (by simp [Region.wanted, yielded]) rfl (fun w _ => ev_move (.tmp 10) _ rfl (by kernel_rfl)) h9 ?_
            simp only [Act.put, List.setIfInBounds_toArray, List.set_cons_zero, List.set_cons_succ]
            refine tkw_val 20 63 (.pointer (some ⟨gp, op + 0 * 32, none⟩)) rfl (by kernel_rfl) (by kernel_rfl) (by kernel_rfl) (fun _ _ _ _ h => h) (by simp [Region.wanted, yielded]) rfl (fun w _ => ev_index (.tmp 62) (.const (.int .i64 0)) gp op 1 c5 0 rfl (by kernel_rfl) (by kernel_rfl) (by omega)) h9 ?_
            simp only [Act.put, List.setIfInBounds_toArray, List.set_cons_zero, List.set_cons_succ]
            refine tkw_load 21 64 (.tmp 63) gp (op + 0 * 32) T1 rfl (by kernel_rfl) (by kernel_rfl) (by kernel_rfl) (fun _ _ _ _ h => h) (by simp [Region.wanted, yielded]) rfl rfl (by kernel_rfl) (fun w h => (KE.out _ h).2.2.2.1) HT1.out h9 ?_
            simp only [Act.put, List.setIfInBounds_toArray, List.set_cons_zero, List.set_cons_succ]
            refine tkw_load 22 65 (.tmp 7) g7 0 T1 rfl (by kernel_rfl) (by kernel_rfl) (by kernel_rfl) (fun _ _ _ _ h => h) (by simp [Region.wanted, yielded]) rfl rfl (by kernel_rfl) (fun w h => (KE.out _ h).1.range) HT1.out h9 ?_
            simp only [Act.put, List.setIfInBounds_toArray, List.set_cons_zero, List.set_cons_succ]
            refine tkw_val 23 66 (.bool false) rfl (by kernel_rfl) (by kernel_rfl) (by kernel_rfl) (fun _ _ _ _ h => h) (by simp [Region.wanted, yielded]) rfl (fun w _ => ev_neq (.tmp 64) (.tmp 65) T1 HT1.out rfl (by kernel_rfl) (by kernel_rfl)) h9 ?_
            simp only [Act.put, List.setIfInBounds_toArray, List.set_cons_zero, List.set_cons_succ]
            refine tk_val 24 67 (.bool false) rfl (by kernel_rfl) (by kernel_rfl) (by kernel_rfl) (fun _ _ _ _ h => h) rfl rfl (fun w _ => ev_pick (.tmp 61) (.const (.bool true)) (.tmp 66) rfl (by kernel_rfl) (by kernel_rfl)) h9 ?_
            simp only [Act.put, List.setIfInBounds_toArray, List.set_cons_zero, List.set_cons_succ]
            refine wpAnyH_done (by kernel_rfl) (NoPanic.normal ?_) _
            have HFIN := Lib.hid (KE.out _ h9).2.2.2.2
            clear h6 h7 h9
            go_wp2_with fail
            go_roundw
            case rel => exact ⟨t + 1, n * 2, by rw [HAT.out, Nat.pow_succ], by go_num, by omega, by omega, HFIN.out⟩
            case measure => simp [intOf]; omega
          · have h447 := h0.alloc h0.size (.cells #[] 5)
            have ho448 := (own_row v0 #[] 0 rfl (by simp only [maxLen]; omega)).base (b' := wp.heap.size) h0.size
            refine to_bs0u 45 rfl rfl rfl (hK.out _ _ h447 fun _ => ?_)
            simp only [Act.put, List.setIfInBounds_toArray, List.set_cons_zero, List.set_cons_succ]
            clear hK
            generalize hs450 : v0.heap.size = s449
            rw [hs450] at ho448
            clear hs450
            revert h447 ho448; generalize World.alloc v0 _ = v446; intro h447 ho448
            refine wpAnyH_ready (rs := [1]) (by kernel_rfl) (by simp) ?_
            refine AllReadyH.cons (o := _) rfl (fun K hK => ?_) AllReadyH.nil
            refine to_call 17 44 _ _ #[.slice A4 (n + 1) c4] _ rfl rfl rfl rfl enters_Tree (TN.out v446 h447) (fun e v451 h5 => ⟨_, h5.1, ?_⟩)
            have ho453 := ho448.below h5.2 (Nat.le_refl _)
            have h452 := h447.trans (h5.2.mono h447.size)
            refine hK.out _ _ h452 fun _ => ?_
            clear h5 ho448
            simp only [Act.put, List.setIfInBounds_toArray, List.set_cons_zero, List.set_cons_succ]
            clear hK
            refine lone 4 (by kernel_rfl) rfl (fun K5 hK5 => ?_)
            rw [if_pos (show Region.wanted _ _ = true from rfl)]
            refine wp_app_at 47 (.tmp 45) (.tmp 46) rfl rfl wp.heap.size (.slice (some ⟨s449, 0, none⟩) 0 0) _ _ _ [] T1 rfl (by rw [HT1.out]; rfl) ho453 ((KE.out _ h452).1.b32 HT1.out) (by rw [HT1.out]; simp) h452.size (fun w6' v6 ho6 hg6 => ?_)
            have h6 := below_own h452 hg6 ho453 (Nat.le_refl _) h452.size
            obtain ⟨A6, c6, rfl⟩ := ho6.slice
            refine hK5 _ _ h6 ?_
            simp only [Act.put, List.setIfInBounds_toArray, List.set_cons_zero, List.set_cons_succ]
            clear hK5 hg6 ho453
            refine lone 6 (by kernel_rfl) rfl (fun K5 hK5 => ?_)
            rw [if_pos (show Region.wanted _ _ = true from rfl)]
            refine wp_app_at 49 (.tmp 47) (.tmp 48) rfl rfl wp.heap.size _ _ _ _ ([] ++ T1) T2 rfl (by rw [HT2.out]; rfl) ho6 ((KE.out _ h6).2.1.b32 HT2.out) (by simp [HT1.out, HT2.out]) h6.size (fun w7' v7 ho7 hg7 => ?_)
            have h7 := below_own h6 hg7 ho6 (Nat.le_refl _) h6.size
            obtain ⟨A7, c7, rfl, hy7⟩ := ho7.byt
            refine hK5 _ _ h7 ?_
            simp only [Act.put, List.setIfInBounds_toArray, List.set_cons_zero, List.set_cons_succ]
            clear hK5 hg7 ho6
            refine lone 7 (by kernel_rfl) rfl (fun K5 hK5 => ?_)
            rw [if_pos (show Region.wanted _ _ = true from rfl)]
            have hy7' := hy7.keep (w' := v7) (S' := (· < v7.heap.size)) fun i hi => ⟨hi.2, rfl⟩
            have hlen7 : (([] ++ T1) ++ T2).length ≤ 1000000 := by simp [HT1.out, HT2.out]
            have CT := Lib.hid (tagged_all nodeT (([] ++ T1) ++ T2) A7 c7 v7 (by decide) hlen7 hy7' (KE.out _ h7).2.2.1)
            clear hy7' hlen7
            obtain ⟨TT, hTT⟩ : ∃ TT, TT = tagd nodeT.data.toList (([] ++ T1) ++ T2) := ⟨_, rfl⟩
            have HTT := Lib.hid (show TT = T3 from hTT.trans HT3.out.symm)
            rw [← hTT] at CT
            clear hTT
            rw [HTT.out] at CT
            clear HTT TT
            obtain ⟨n7, hn7⟩ : ∃ n7, n7 = (([] ++ T1) ++ T2).length := ⟨_, rfl⟩
            rw [← hn7] at CT ⊢
            clear hn7
            refine wp_call 14 50 _ _ #[.string nodeT, .slice A7 n7 c7] _ rfl rfl rfl enters_Tagged CT.out (fun e w8 h8 => ⟨_, h8.1, ?_⟩)
            have h9 := h7.trans (h8.2.mono h7.size)
            refine hK5 _ _ h9 ?_
            simp only [Act.put, List.setIfInBounds_toArray, List.set_cons_zero, List.set_cons_succ]
            clear hK5 ho7 hy7 h8
            refine tk_val 8 51 (.bool false) rfl (by kernel_rfl) (by kernel_rfl) (by kernel_rfl) (fun _ _ _ _ h => h) rfl rfl (fun w _ => ev_neq (.tmp 44) (.tmp 50) T3 HT3L.out rfl (by kernel_rfl) (by kernel_rfl)) h9 ?_
            simp only [Act.put, List.setIfInBounds_toArray, List.set_cons_zero, List.set_cons_succ]
            refine tk_move 9 52 (.tmp 51) (.bool false) rfl (by kernel_rfl) (by kernel_rfl) (by kernel_rfl) (fun _ _ _ _ h => h) rfl rfl rfl (by kernel_rfl) h9 ?_
            simp only [Act.put, List.setIfInBounds_toArray, List.set_cons_zero, List.set_cons_succ]
            refine tkw_val 10 53 (.int .i64 0) rfl (by kernel_rfl) (by kernel_rfl) (by kernel_rfl) (fun _ _ _ _ h => h) (by simp [Region.wanted, yielded]) rfl (fun w _ => ev_move (.tmp 11) _ rfl (by kernel_rfl)) h9 ?_
            simp only [Act.put, List.setIfInBounds_toArray, List.set_cons_zero, List.set_cons_succ]
            refine tkw_val 11 54 (.bool false) rfl (by kernel_rfl) (by kernel_rfl) (by kernel_rfl) (fun _ _ _ _ h => h) (by simp [Region.wanted, yielded]) rfl (fun w _ => ev_neqi 34 (.tmp 53) (.const (.int .i64 0)) 0 rfl Tryd.underlying34 (by kernel_rfl) (by kernel_rfl)) h9 ?_
            simp only [Act.put, List.setIfInBounds_toArray, List.set_cons_zero, List.set_cons_succ]
            refine tk_val 12 55 (.bool false) rfl (by kernel_rfl) (by kernel_rfl) (by kernel_rfl) (fun _ _ _ _ h => h) rfl rfl (fun w _ => ev_pick (.tmp 52) (.const (.bool true)) (.tmp 54) rfl (by kernel_rfl) (by kernel_rfl)) h9 ?_
            simp only [Act.put, List.setIfInBounds_toArray, List.set_cons_zero, List.set_cons_succ]
            refine tk_move 13 56 (.tmp 55) (.bool false) rfl (by kernel_rfl) (by kernel_rfl) (by kernel_rfl) (fun _ _ _ _ h => h) rfl rfl rfl (by kernel_rfl) h9 ?_
            simp only [Act.put, List.setIfInBounds_toArray, List.set_cons_zero, List.set_cons_succ]
            refine tkw_val 14 57 (.slice (some ⟨gp, op, none⟩) 1 c5) rfl (by kernel_rfl) (by kernel_rfl) (by kernel_rfl) (fun _ _ _ _ h => h) (by simp [Region.wanted, yielded]) rfl (fun w _ => ev_move (.tmp 10) _ rfl (by kernel_rfl)) h9 ?_
            simp only [Act.put, List.setIfInBounds_toArray, List.set_cons_zero, List.set_cons_succ]
            refine tkw_val 15 58 (.int .i64 1) rfl (by kernel_rfl) (by kernel_rfl) (by kernel_rfl) (fun _ _ _ _ h => h) (by simp [Region.wanted, yielded]) rfl (fun w _ => ev_len (.tmp 57) (some ⟨gp, op, none⟩) 1 c5 rfl (by kernel_rfl)) h9 ?_
            simp only [Act.put, List.setIfInBounds_toArray, List.set_cons_zero, List.set_cons_succ]
            refine tkw_val 16 59 (.bool false) rfl (by kernel_rfl) (by kernel_rfl) (by kernel_rfl) (fun _ _ _ _ h => h) (by simp [Region.wanted, yielded]) rfl (fun w _ => ev_neqi 3 (.tmp 58) (.const (.int .i64 1)) 1 rfl Tryd.underlying3 (by kernel_rfl) (by kernel_rfl)) h9 ?_
            simp only [Act.put, List.setIfInBounds_toArray, List.set_cons_zero, List.set_cons_succ]
            refine tk_val 17 60 (.bool false) rfl (by kernel_rfl) (by kernel_rfl) (by kernel_rfl) (fun _ _ _ _ h => h) rfl rfl (fun w _ => ev_pick (.tmp 56) (.const (.bool true)) (.tmp 59) rfl (by kernel_rfl) (by kernel_rfl)) h9 ?_
            simp only [Act.put, List.setIfInBounds_toArray, List.set_cons_zero, List.set_cons_succ]
            refine tk_move 18 61 (.tmp 60) (.bool false) rfl (by kernel_rfl) (by kernel_rfl) (by kernel_rfl) (fun _ _ _ _ h => h) rfl rfl rfl (by kernel_rfl) h9 ?_
            simp only [Act.put, List.setIfInBounds_toArray, List.set_cons_zero, List.set_cons_succ]
            refine tkw_val 19 62 (.slice (some ⟨gp, op, none⟩) 1 c5) rfl (by kernel_rfl) (by kernel_rfl) (by kernel_rfl) (fun _ _ _ _ h => h) (by simp [Region.wanted, yielded]) rfl (fun w _ => ev_move (.tmp 10) _ rfl (by kernel_rfl)) h9 ?_
            simp only [Act.put, List.setIfInBounds_toArray, List.set_cons_zero, List.set_cons_succ]
            refine tkw_val 20 63 (.pointer (some ⟨gp, op + 0 * 32, none⟩)) rfl (by kernel_rfl) (by kernel_rfl) (by kernel_rfl) (fun _ _ _ _ h => h) (by simp [Region.wanted, yielded]) rfl (fun w _ => ev_index (.tmp 62) (.const (.int .i64 0)) gp op 1 c5 0 rfl (by kernel_rfl) (by kernel_rfl) (by omega)) h9 ?_
            simp only [Act.put, List.setIfInBounds_toArray, List.set_cons_zero, List.set_cons_succ]
            refine tkw_load 21 64 (.tmp 63) gp (op + 0 * 32) T1 rfl (by kernel_rfl) (by kernel_rfl) (by kernel_rfl) (fun _ _ _ _ h => h) (by simp [Region.wanted, yielded]) rfl rfl (by kernel_rfl) (fun w h => (KE.out _ h).2.2.2.1) HT1.out h9 ?_
            simp only [Act.put, List.setIfInBounds_toArray, List.set_cons_zero, List.set_cons_succ]
            refine tkw_load 22 65 (.tmp 7) g7 0 T1 rfl (by kernel_rfl) (by kernel_rfl) (by kernel_rfl) (fun _ _ _ _ h => h) (by simp [Region.wanted, yielded]) rfl rfl (by kernel_rfl) (fun w h => (KE.out _ h).1.range) HT1.out h9 ?_
            simp only [Act.put, List.setIfInBounds_toArray, List.set_cons_zero, List.set_cons_succ]
            refine tkw_val 23 66 (.bool false) rfl (by kernel_rfl) (by kernel_rfl) (by kernel_rfl) (fun _ _ _ _ h => h) (by simp [Region.wanted, yielded]) rfl (fun w _ => ev_neq (.tmp 64) (.tmp 65) T1 HT1.out rfl (by kernel_rfl) (by kernel_rfl)) h9 ?_
            simp only [Act.put, List.setIfInBounds_toArray, List.set_cons_zero, List.set_cons_succ]
            refine tk_val 24 67 (.bool false) rfl (by kernel_rfl) (by kernel_rfl) (by kernel_rfl) (fun _ _ _ _ h => h) rfl rfl (fun w _ => ev_pick (.tmp 61) (.const (.bool true)) (.tmp 66) rfl (by kernel_rfl) (by kernel_rfl)) h9 ?_
            simp only [Act.put, List.setIfInBounds_toArray, List.set_cons_zero, List.set_cons_succ]
            refine wpAnyH_done (by kernel_rfl) (NoPanic.normal ?_) _
            have HFIN := Lib.hid (KE.out _ h9).2.2.2.2
            clear h6 h7 h9
            go_wp2_with fail
            go_roundw
            case rel => exact ⟨t + 1, n * 2, by rw [HAT.out, Nat.pow_succ], by go_num, by omega, by omega, HFIN.out⟩
            case measure => simp [intOf]; omega
    · have HFIN := Lib.hid (KEEP.out _ HBR.out).2.2.2
      have hlb : ¬ (n : Int) ≤ L.length := by omega
      go_wp2_with fail
      go_ret
      exact ⟨rfl, HFIN.out⟩
end Go.Proofs.YtgojodldnodjpaaDoor
