/- Digest: DigestTreeSpec. -/
import Derived.Test.YtgojodldnodjpaaDoorKG
namespace Go.Proofs.YtgojodldnodjpaaDoor
open Go.ChangeShapes Go.WideShapes Go.ChangeAt Go.WideElems Go.RowKit

section
variable {o : Oper} {a : Act} {w : World}
theorem ev_quo2 (x y : Operand) (N : Nat) (hN : N ≤ 100) (ho : o.op = .binOp .quo 3 x y 3) (hx : a.eval x = .int .i64 N) (hy : a.eval y = .int .i64 2) :
    (execOp a.eval o).run Tryd.prog w = .ok (.value (.int .i64 ((N / 2 : Nat) : Int))) w := by
  have b1 : (0 : Int) ≤ N := by omega
  have b2 : (N : Int) ≤ 100 := by omega
  have b3 : IntKind.i64.wrap ((N : Int) / 2) = (N : Int) / 2 := IntWalk.i64_in _ (by omega)
  have b4 : Int.tdiv (N : Int) 2 = (N : Int) / 2 := Int.tdiv_eq_ediv_of_nonneg b1
  unfold execOp
  simp only [ho, hx, hy]
  go_simp
theorem ev_slice_toN (x y : Operand) (A : Option Addr) (len cap K : Nat) (hA : A = none → cap = 0) (ho : o.op = .slice 30 x none (some y) none) (hx : a.eval x = .slice A len cap) (hy : a.eval y = .int .i64 K) (hk : K ≤ cap) :
    (execOp a.eval o).run Tryd.prog w = .ok (.value (.slice A K cap)) w := by
  rcases A with _ | ⟨b, ofs, _ | _⟩
  · obtain rfl := hA rfl
    obtain rfl : K = 0 := by omega
    unfold execOp
    simp only [ho, hx, hy, Option.map]
    go_simp
  · exact ev_slice_to x y b ofs len cap K ho hx hy hk
  · have b1 : (K : Int) ≤ cap := by omega
    unfold execOp
    simp only [ho, hx, hy, Option.map]
    go_simp
theorem ev_len3 (x : Operand) (A : Option Addr) (n cap : Nat) (ho : o.op = .call { callee := .builtin .len, args := #[x], argTypes := #[38] }) (hx : a.eval x = .slice A n cap) :
    (execOp a.eval o).run Tryd.prog w = .ok (.value (.int .i64 n)) w := by
  unfold execOp
  simp [ho, hx, resolve, invoke, builtin]
  go_simp
theorem to_bs3 {ops : Array Oper} {K : Act → World → Prop} {Q : Exit → Act → World → Prop} {E : Prop} (n : Nat) (x y z : Operand) (A B C : Option Addr) (l1 l2 l3 c1 c2 c3 : Nat) (hgd : o.guard = none) (ho : o.op = .buildSlice 38 3 #[(0, x), (1, y), (2, z)]) (hd : o.dst = some n)
    (hx : a.eval x = .slice A l1 c1) (hy : a.eval y = .slice B l2 c2) (hz : a.eval z = .slice C l3 c3)
    (hK : K (a.put (some n) (.slice (some ⟨w.heap.size, 0, none⟩) 3 3)) (w.alloc (.cells #[.slice A l1 c1, .slice B l2 c2, .slice C l3 c3] 30))) : if Region.wanted o (yielded ops a.tmps) = true then Oper.wp Tryd.prog o a w K Q else E := by
  have hw : Region.wanted o (yielded ops a.tmps) = true := by simp [Region.wanted, hgd]
  rw [if_pos hw]
  unfold Oper.wp execOp
  simp only [ho]
  simp only [List.map_toArray, List.map_cons, List.map_nil, hx, hy, hz]
  go_simp
  exact hK
end
/-- the three paths that are tried, as they lie -/
def Tri (ww : World) (g : Nat) (PS : List (Option Addr × Nat × List (List UInt8))) : Prop :=
  ∀ (j : Nat) x, PS[j]? = some x → ww.cell? ⟨g, j, none⟩ = some (.slice x.1 x.2.2.length x.2.1) ∧ DL ww (· < ww.heap.size) x.2.2 x.1 x.2.1 ∧ x.2.2.length ≤ 100

set_option maxRecDepth 100000 in
set_option maxHeartbeats 64000000 in
theorem treespec_all (l : List UInt8) (A : Option Addr) (cap : Nat) (at_ n : Int) (d : List UInt8) (w : World) (_ha1 : -9223372036854775808 ≤ at_) (_ha2 : at_ ≤ 9223372036854775807) (_hn1 : -9223372036854775808 ≤ n) (_hn2 : n ≤ 9223372036854775807)
    (hl : Byt w (· < w.heap.size) l A cap) (hd : d.length = 32) (hk : KR w Kt) :
    Calls Tryd.prog 4 #[.slice A l.length cap, .int .i64 at_, .int .i64 n, .agg (U d).toArray] w fun e w' => e = .returned (.bool true) ∧ Below w.heap.size w w' := by
  have HL := Lib.hid hl
  have HK := Lib.hid hk
  have HD := Lib.hid hd
  have hlt0 := hk.lt
  clear hl hk hd
  go_enter Tryd.func4, Tryd.ntmps4
  go_wp2_with fail
  generalize hW1 : w.alloc _ = W1
  obtain ⟨h0, hb1, hz1⟩ := box1 w (U d).toArray 26 W1 hW1
  clear hW1
  have hlt1 : w.heap.size < W1.heap.size := by omega
  have R1 := Lib.hid (show RowB W1 w.heap.size 26 d from h0)
  have HB1 := Lib.hid hb1
  have S0 := sane_all W1 (HK.out.keep (hb1.block 0 hlt0))
  clear h0 hb1 hz1
  refine S0.mono ?_
  rintro e w2 ⟨rfl, hb2⟩
  have hz2 := hb2.size
  have HB2 := Lib.hid (HB1.out.trans (hb2.mono (by omega)))
  have R2 := Lib.hid (R1.out.keep (hb2.block _ hlt1))
  have D0 := Lib.hid (digestsOf_all l A cap w2 (HL.out.keep fun i hi => ⟨by omega, HB2.out.block i hi⟩))
  clear S0 R1 HB1 hb2
  go_wp2_with fail
  refine D0.out.mono ?_
  rintro e w3 ⟨v, L, rfl, ho, hll, hb3⟩
  obtain ⟨A3, c3, rfl, hdl⟩ := ho.dl
  have hz3 := hb3.size
  have hn24 : L.length ≤ 24 := by omega
  have HB3 := Lib.hid (HB2.out.trans (hb3.mono (by omega)))
  have HDL := Lib.hid hdl
  have hcap := hdl.1
  have hcm := hdl.2.1
  have KEEP := Lib.hid (show ∀ ww, Below w3.heap.size w3 ww → DL ww (· < ww.heap.size) L A3 c3 ∧ KR ww Kt ∧ RowB ww w.heap.size 26 d ∧ Below w.heap.size w ww from fun ww h => by
    have hs := h.size
    exact ⟨HDL.out.keep fun i hi => ⟨by omega, h.block i hi.2⟩, HK.out.keep ((h.block 0 (by omega)).trans (HB3.out.block 0 hlt0)), R2.out.keep ((h.block _ (by omega)).trans (hb3.block _ (by omega))), HB3.out.trans (h.mono (by omega))⟩)
  clear D0 HB2 R2 ho hdl hb3 hll
  obtain ⟨F0, hF0⟩ : ∃ F0 : Nat, F0 = 1099511627776 := ⟨_, rfl⟩
  have hF1 : F0 ≤ 1099511627776 := by omega
  have hF2 : 1099511627776 ≤ F0 := by omega
  clear hF0
  obtain ⟨T, hT⟩ : ∃ T, T = tree F0 L := ⟨_, rfl⟩
  have q1 := eq_self T (by rw [hT]; exact tree_len _ _)
  have C4 := Lib.hid (show Calls Tryd.prog 17 #[.slice A3 L.length c3] w3 fun e w' => e = .returned (.agg (U T).toArray) ∧ Below w3.heap.size w3 w' from by rw [hT]; exact tree_all F0 L A3 c3 w3 (by omega) (by omega) (KEEP.out _ (Below.refl _ _)).1 (KEEP.out _ (Below.refl _ _)).2.1)
  have C5 := Lib.hid (show ∀ ww, Below w3.heap.size w3 ww → Calls Tryd.prog 18 #[.slice A3 L.length c3] ww fun e w' => e = .returned (.agg (U T).toArray) ∧ Below ww.heap.size ww w' from fun ww h => by rw [hT]; exact rtree_all F0 L A3 c3 ww (by omega) (by omega) (KEEP.out _ h).1)
  clear hT
  go_wp2_with fail
  refine C4.out.mono ?_
  rintro e w4 ⟨rfl, hb4⟩
  have C5' := Lib.hid (C5.out w4 hb4)
  have HB4 := Lib.hid hb4
  have hz4 := hb4.size
  clear hb4 C4 C5
  go_wp2_with fail
  refine C5'.out.mono ?_
  rintro e w5 ⟨rfl, hb5⟩
  have HB5 := Lib.hid (HB4.out.trans (hb5.mono hz4))
  have hz5 := HB5.out.size
  clear hb5 C5' HB4
  go_wp2_with fail
  generalize bits BinOp.and IntKind.i64 at_ 15 = at2
  generalize hW6 : w5.alloc _ = W6
  obtain ⟨h60, hb6, hz6⟩ := box1 w5 _ _ W6 hW6
  have HC6 := Lib.hid h60
  have HB6 := Lib.hid (HB5.out.trans (hb6.mono hz5))
  have hzz6 := HB6.out.size
  clear h60 hb6 hW6 q1 HB5
  go_loopw [38] (fun x wr => ∃ j : Nat, j ≤ 2 ∧ x = .int .i64 j ∧ Below W6.heap.size W6 wr) (fun x _ => 2 - (intOf x).toNat)
  case atStart => exact ⟨0, by omega, rfl, Below.refl _ _⟩
  case round =>
    rename World => wk
    obtain ⟨j, hj, rfl, hb⟩ := hrel
    have HBK := Lib.hid hb
    have HBK3 := Lib.hid (HB6.out.trans (hb.mono hzz6))
    have hzk := hb.size
    clear hb
    by_cases hj2 : j < 2
    · obtain ⟨i, hi⟩ : ∃ i : Int, wk.cell? ⟨w5.heap.size, j, none⟩ = some (.int .i64 i) := by
        have hc := (HBK.out.block w5.heap.size (by omega)).trans HC6.out
        match j, hj2 with
        | 0, _ => exact ⟨_, cell_of_row wk _ 0 _ _ _ hc⟩
        | 1, _ => exact ⟨_, cell_of_row wk _ 1 _ _ _ hc⟩
      have hP5' := prp_len F0 L i (by omega)
      have C7 := Lib.hid (Path_any F0 L i A3 c3 wk (by omega) hF1 (KEEP.out _ HBK3.out).1 (KEEP.out _ HBK3.out).2.1)
      have C8 := Lib.hid (fun ww h => rPath_any F0 L i A3 c3 ww (by omega) hF1 (KEEP.out ww h).1)
      generalize pre_ L i = er at C7 C8
      generalize prp F0 L i = P at C7 C8 hP5'
      have hP5 : P.length ≤ 100 := by omega
      have HP5 := Lib.hid hP5'
      clear hP5'
      go_wp2_with fail
      refine C7.out.mono ?_
      rintro e w7 ⟨A12, c12, rfl, hd7, hb7⟩
      have HB7 := Lib.hid (HBK3.out.trans (hb7.mono HBK3.out.size))
      have HBK7 := Lib.hid (HBK.out.trans (hb7.mono hzk))
      have hz7 := hb7.size
      have HD7 := Lib.hid hd7
      have C8' := Lib.hid (C8.out w7 HB7.out)
      clear C7 C8 hd7 hb7 hi
      go_wp2_with fail
      refine C8'.out.mono ?_
      rintro e w8 ⟨A14, c14, rfl, hd8, hb8⟩
      have hz8 := hb8.size
      have HB8 := Lib.hid (HB7.out.trans (hb8.mono HB7.out.size))
      have HBK8 := Lib.hid (HBK7.out.trans (hb8.mono HBK7.out.size))
      have hA14 := hd8.2.2.1
      have hc14 := hd8.1
      have HD8 := Lib.hid hd8
      have C9 := Lib.hid (rsame_all P A12 c12 A14 c14 w8 (HD7.out.keep fun i hi => ⟨by omega, hb8.block i hi.2⟩) (hd8.keep fun i hi => ⟨hi.2, rfl⟩) (by omega))
      have HA14 := Lib.hid hA14
      clear C8' hd8 hb8 HD7 hA14
      go_wp2_with fail
      refine C9.out.mono ?_
      rintro e w9 ⟨rfl, hb9⟩
      have hz9 := hb9.size
      have HB9 := Lib.hid (HB8.out.trans (hb9.mono HB8.out.size))
      have HBK9 := Lib.hid (HBK8.out.trans (hb9.mono HBK8.out.size))
      have HD9 := Lib.hid (HD8.out.keep (w' := w9) (S' := (· < w9.heap.size)) fun i hi => ⟨by omega, hb9.block i hi.2⟩)
      clear C9 hb9 HD8 HB7 HB8 HBK7 HBK8
      go_wp2_with fail
      generalize hWa : w9.alloc _ = Wa
      obtain ⟨ha0, hba, hza⟩ := box1 w9 _ _ Wa hWa
      have HCA := Lib.hid ha0
      have HBA := Lib.hid (HB9.out.trans (hba.mono HB9.out.size))
      have HBKA := Lib.hid (HBK9.out.trans (hba.mono HBK9.out.size))
      have HDA := Lib.hid (HD9.out.keep (w' := Wa) (S' := (· < w9.heap.size)) fun i hi => ⟨hi, hba.block i hi⟩)
      have hzza := HBA.out.size
      have hzzb := HBKA.out.size
      clear ha0 hba hWa HD9 HB9 HBK9
      go_loopw [68] (fun x wr => ∃ k : Nat, k ≤ 2 ∧ x = .int .i64 k ∧ Below Wa.heap.size Wa wr) (fun x _ => 2 - (intOf x).toNat)
      case atStart => exact ⟨0, by omega, rfl, Below.refl _ _⟩
      case round =>
        rename World => wm
        obtain ⟨k, hk, rfl, hb⟩ := hrel
        have HBM := Lib.hid hb
        have HBM3 := Lib.hid (HBA.out.trans (hb.mono hzza))
        have hzm := hb.size
        clear hb
        by_cases hk2 : k < 2
        · obtain ⟨m, hm⟩ : ∃ m : Int, wm.cell? ⟨w9.heap.size, k, none⟩ = some (.int .i64 m) := by
            have hc := (HBM.out.block w9.heap.size (by omega)).trans HCA.out
            match k, hk2 with
            | 0, _ => exact ⟨_, cell_of_row wm _ 0 _ _ _ hc⟩
            | 1, _ => exact ⟨_, cell_of_row wm _ 1 _ _ _ hc⟩
          have HDPW := Lib.hid (show ∀ ww, Below wm.heap.size wm ww → DL ww (· < wm.heap.size) P A14 c14 from fun ww h => HDA.out.keep fun i hi => ⟨by omega, (h.block i (by omega)).trans (HBM.out.block i (by omega))⟩)
          have KRD := Lib.hid (show ∀ ww, Below wm.heap.size wm ww → RowB ww w.heap.size 26 d from fun ww h => (KEEP.out ww (HBM3.out.trans (h.mono HBM3.out.size))).2.2.1)
          have hk3 : (k : Int) < 2 := by omega
          go_upto_region 16 with fail
          have hA14 := HA14.out
          go_cut [84, 85, 86] from 72 to 86 (fun x y z wx => ∃ (wy : World) (A78 : Option Addr) (c78 : Nat), x = .slice (some ⟨wy.heap.size, 0, none⟩) 3 3 ∧ y = .int .i64 3 ∧ z = .int .i64 0 ∧ OwnD wy wm.heap.size (.slice A78 (([] ++ P : List (List UInt8)).length + [d].length) c78) (([] ++ P) ++ [d]) ∧ Below wm.heap.size wm wy ∧
            wx = wy.alloc (.cells #[.slice A14 P.length c14, .slice A78 (([] ++ P : List (List UInt8)).length + [d].length) c78, .slice A14 (P.length / 2) c14] 30))
          case first =>
            refine wp_region_noPanic ?_
            have z0 := CZ.base wm d
            refine wp_region_held_drew (S := fun ww => Below wm.heap.size wm ww) (by kernel_rfl) z0.below (fun _ => ?_)
            revert z0; generalize World.drew wm = v0; intro z0
            refine tk_move 0 72 (.tmp 14) (.slice A14 P.length c14) rfl (by kernel_rfl) (by kernel_rfl) (by kernel_rfl) (fun _ _ _ _ h => h) rfl rfl rfl rfl z0.below ?_
            simp only [Act.put, List.setIfInBounds_toArray, List.set_cons_zero, List.set_cons_succ]
            refine tk_move 2 74 (.tmp 14) (.slice A14 P.length c14) rfl (by kernel_rfl) (by kernel_rfl) (by kernel_rfl) (fun _ _ _ _ h => h) rfl rfl rfl rfl z0.below ?_
            simp only [Act.put, List.setIfInBounds_toArray, List.set_cons_zero, List.set_cons_succ]
            refine tk_load 4 76 (.tmp 7) w.heap.size 0 d rfl (by kernel_rfl) (by kernel_rfl) (by kernel_rfl) (fun _ _ _ _ h => h) rfl rfl rfl rfl (fun w h => (KRD.out _ h).range) HD.out z0.below ?_
            simp only [Act.put, List.setIfInBounds_toArray, List.set_cons_zero, List.set_cons_succ]
            refine tk_move 7 79 (.tmp 14) (.slice A14 P.length c14) rfl (by kernel_rfl) (by kernel_rfl) (by kernel_rfl) (fun _ _ _ _ h => h) rfl rfl rfl rfl z0.below ?_
            simp only [Act.put, List.setIfInBounds_toArray, List.set_cons_zero, List.set_cons_succ]
            refine tk_move 8 80 (.tmp 14) (.slice A14 P.length c14) rfl (by kernel_rfl) (by kernel_rfl) (by kernel_rfl) (fun _ _ _ _ h => h) rfl rfl rfl rfl z0.below ?_
            simp only [Act.put, List.setIfInBounds_toArray, List.set_cons_zero, List.set_cons_succ]
            refine tk_val 9 81 (.int .i64 P.length) rfl (by kernel_rfl) (by kernel_rfl) (by kernel_rfl) (fun _ _ _ _ h => h) rfl rfl (fun w _ => ev_len (.tmp 80) _ _ _ rfl rfl) z0.below ?_
            simp only [Act.put, List.setIfInBounds_toArray, List.set_cons_zero, List.set_cons_succ]
            refine tk_val 10 82 (.int .i64 ((P.length / 2 : Nat) : Int)) rfl (by kernel_rfl) (by kernel_rfl) (by kernel_rfl) (fun _ _ _ _ h => h) rfl rfl (fun w _ => ev_quo2 (.tmp 81) (.const (.int .i64 2)) P.length hP5 rfl rfl rfl) z0.below ?_
            simp only [Act.put, List.setIfInBounds_toArray, List.set_cons_zero, List.set_cons_succ]
            refine tk_move 14 86 (.const (.int .i64 0)) (.int .i64 0) rfl (by kernel_rfl) (by kernel_rfl) (by kernel_rfl) (fun _ _ _ _ h => h) rfl rfl rfl rfl z0.below ?_
            simp only [Act.put, List.setIfInBounds_toArray, List.set_cons_zero, List.set_cons_succ]
            refine tk_val 11 83 (.slice A14 (P.length / 2) c14) rfl (by kernel_rfl) (by kernel_rfl) (by kernel_rfl) (fun _ _ _ _ h => h) rfl rfl (fun w _ => ev_slice_toN (.tmp 79) (.tmp 82) A14 P.length c14 (P.length / 2) hA14 rfl rfl rfl (by omega)) z0.below ?_
            simp only [Act.put, List.setIfInBounds_toArray, List.set_cons_zero, List.set_cons_succ]
            refine wpAnyH_ready (rs := [1, 5]) (by kernel_rfl) (by simp) ?_
            refine AllReadyH.cons (o := _) rfl (fun K hK => ?_) (AllReadyH.cons (o := _) rfl (fun K hK => ?_) AllReadyH.nil)
            · have z1 := z0.nil
              refine to_bs0 73 rfl rfl rfl (hK.out _ _ z1.below fun _ => ?_)
              revert z1; generalize World.alloc v0 _ = v2; intro z1
              simp only [Act.put, List.setIfInBounds_toArray, List.set_cons_zero, List.set_cons_succ]
              clear hK
              refine wpAnyH_ready (rs := [3, 5]) (by kernel_rfl) (by simp) ?_
              refine AllReadyH.cons (o := _) rfl (fun K hK => ?_) (AllReadyH.cons (o := _) rfl (fun K hK => ?_) AllReadyH.nil)
              · refine to_app 75 (.tmp 73) (.tmp 74) rfl rfl rfl wm.heap.size (.slice (some ⟨v0.heap.size, 0, none⟩) 0 0) (· < wm.heap.size) [] P A14 c14 rfl rfl (z1.own _ _ rfl) (HDPW.out _ z1.below) (by simp; omega) z1.below.size (fun A5 c6 v4 hO hG hA => ?_)
                have z3 := z1.app hO hG hA
                refine hK.out _ _ z3.below fun _ => ?_
                clear hO hG hA
                simp only [Act.put, List.setIfInBounds_toArray, List.set_cons_zero, List.set_cons_succ]
                clear hK
                refine wpAnyH_ready (rs := [5]) (by kernel_rfl) (by simp) ?_
                refine AllReadyH.cons (o := _) rfl (fun K hK => ?_) AllReadyH.nil
                · have z7 := z3.mkrow
                  refine to_bs1 77 (.tmp 76) d rfl rfl rfl rfl HD.out (hK.out _ _ z7.below fun _ => ?_)
                  revert z7; generalize World.alloc v4 _ = v8; intro z7
                  simp only [Act.put, List.setIfInBounds_toArray, List.set_cons_zero, List.set_cons_succ]
                  clear hK
                  refine wpAnyH_ready (rs := [6]) (by kernel_rfl) (by simp) ?_
                  refine AllReadyH.cons (o := _) rfl (fun K hK => ?_) AllReadyH.nil
                  · refine to_app 78 (.tmp 75) (.tmp 77) rfl rfl rfl wm.heap.size (.slice A5 (([] : List (List UInt8)).length + P.length) c6) (· = v4.heap.size) ([] ++ P) [d] (some ⟨v4.heap.size, 0, none⟩) 1 rfl rfl (z7.own _ _ rfl) (DL.one (z7.row _ rfl).1 HD.out) (by simp; omega) z7.below.size (fun A11 c12 v10 hO hG hA => ?_)
                    have z9 := z7.app hO hG hA
                    refine hK.out _ _ z9.below fun _ => ?_
                    clear hO hG hA
                    simp only [Act.put, List.setIfInBounds_toArray, List.set_cons_zero, List.set_cons_succ]
                    clear hK
                    have HO := Lib.hid (z9.own _ _ rfl)
                    refine lone 12 (by kernel_rfl) rfl (fun K5 hK5 => to_bs3 84 (.tmp 72) (.tmp 78) (.tmp 83) A14 A11 A14 P.length (([] ++ P : List (List UInt8)).length + [d].length) (P.length / 2) c14 c12 c14 rfl rfl rfl (by kernel_rfl) (by kernel_rfl) (by kernel_rfl) (hK5 _ _ (z9.below.alloc z9.below.size (.cells #[.slice A14 P.length c14, .slice A11 (([] ++ P : List (List UInt8)).length + [d].length) c12, .slice A14 (P.length / 2) c14] 30)) ?_))
                    simp only [Act.put, List.setIfInBounds_toArray, List.set_cons_zero, List.set_cons_succ]
                    refine tk_val 13 85 (.int .i64 3) rfl (by kernel_rfl) (by kernel_rfl) (by kernel_rfl) (fun _ _ _ _ h => h) rfl rfl (fun w _ => ev_len3 (.tmp 84) (some ⟨v10.heap.size, 0, none⟩) 3 3 rfl (by kernel_rfl)) (z9.below.alloc z9.below.size (.cells #[.slice A14 P.length c14, .slice A11 (([] ++ P : List (List UInt8)).length + [d].length) c12, .slice A14 (P.length / 2) c14] 30)) ?_
                    simp only [Act.put, List.setIfInBounds_toArray, List.set_cons_zero, List.set_cons_succ]
                    refine wpAnyH_done (by kernel_rfl) (NoPanic.normal ?_) _
                    have HE := Lib.hid z9.below
                    clear z9
                    go_wp2_with fail
                    go_meet
                    exact ⟨v10, A11, c12, rfl, rfl, rfl, HO.out, HE.out, rfl⟩
              · have z15 := z1.mkrow
                refine to_bs1 77 (.tmp 76) d rfl rfl rfl rfl HD.out (hK.out _ _ z15.below fun _ => ?_)
                revert z15; generalize World.alloc v2 _ = v16; intro z15
                simp only [Act.put, List.setIfInBounds_toArray, List.set_cons_zero, List.set_cons_succ]
                clear hK
                refine wpAnyH_ready (rs := [3]) (by kernel_rfl) (by simp) ?_
                refine AllReadyH.cons (o := _) rfl (fun K hK => ?_) AllReadyH.nil
                · refine to_app 75 (.tmp 73) (.tmp 74) rfl rfl rfl wm.heap.size (.slice (some ⟨v0.heap.size, 0, none⟩) 0 0) (· < wm.heap.size) [] P A14 c14 rfl rfl (z15.own _ _ rfl) (HDPW.out _ z15.below) (by simp; omega) z15.below.size (fun A19 c20 v18 hO hG hA => ?_)
                  have z17 := z15.app hO hG hA
                  refine hK.out _ _ z17.below fun _ => ?_
                  clear hO hG hA
                  simp only [Act.put, List.setIfInBounds_toArray, List.set_cons_zero, List.set_cons_succ]
                  clear hK
                  refine wpAnyH_ready (rs := [6]) (by kernel_rfl) (by simp) ?_
                  refine AllReadyH.cons (o := _) rfl (fun K hK => ?_) AllReadyH.nil
                  · refine to_app 78 (.tmp 75) (.tmp 77) rfl rfl rfl wm.heap.size (.slice A19 (([] : List (List UInt8)).length + P.length) c20) (· = v2.heap.size) ([] ++ P) [d] (some ⟨v2.heap.size, 0, none⟩) 1 rfl rfl (z17.own _ _ rfl) (DL.one (z17.row _ rfl).1 HD.out) (by simp; omega) z17.below.size (fun A23 c24 v22 hO hG hA => ?_)
                    have z21 := z17.app hO hG hA
                    refine hK.out _ _ z21.below fun _ => ?_
                    clear hO hG hA
                    simp only [Act.put, List.setIfInBounds_toArray, List.set_cons_zero, List.set_cons_succ]
                    clear hK
                    have HO := Lib.hid (z21.own _ _ rfl)
                    refine lone 12 (by kernel_rfl) rfl (fun K5 hK5 => to_bs3 84 (.tmp 72) (.tmp 78) (.tmp 83) A14 A23 A14 P.length (([] ++ P : List (List UInt8)).length + [d].length) (P.length / 2) c14 c24 c14 rfl rfl rfl (by kernel_rfl) (by kernel_rfl) (by kernel_rfl) (hK5 _ _ (z21.below.alloc z21.below.size (.cells #[.slice A14 P.length c14, .slice A23 (([] ++ P : List (List UInt8)).length + [d].length) c24, .slice A14 (P.length / 2) c14] 30)) ?_))
                    simp only [Act.put, List.setIfInBounds_toArray, List.set_cons_zero, List.set_cons_succ]
                    refine tk_val 13 85 (.int .i64 3) rfl (by kernel_rfl) (by kernel_rfl) (by kernel_rfl) (fun _ _ _ _ h => h) rfl rfl (fun w _ => ev_len3 (.tmp 84) (some ⟨v22.heap.size, 0, none⟩) 3 3 rfl (by kernel_rfl)) (z21.below.alloc z21.below.size (.cells #[.slice A14 P.length c14, .slice A23 (([] ++ P : List (List UInt8)).length + [d].length) c24, .slice A14 (P.length / 2) c14] 30)) ?_
                    simp only [Act.put, List.setIfInBounds_toArray, List.set_cons_zero, List.set_cons_succ]
                    refine wpAnyH_done (by kernel_rfl) (NoPanic.normal ?_) _
                    have HE := Lib.hid z21.below
                    clear z21
                    go_wp2_with fail
                    go_meet
                    exact ⟨v22, A23, c24, rfl, rfl, rfl, HO.out, HE.out, rfl⟩
            · have z27 := z0.mkrow
              refine to_bs1 77 (.tmp 76) d rfl rfl rfl rfl HD.out (hK.out _ _ z27.below fun _ => ?_)
              revert z27; generalize World.alloc v0 _ = v28; intro z27
              simp only [Act.put, List.setIfInBounds_toArray, List.set_cons_zero, List.set_cons_succ]
              clear hK
              refine wpAnyH_ready (rs := [1]) (by kernel_rfl) (by simp) ?_
              refine AllReadyH.cons (o := _) rfl (fun K hK => ?_) AllReadyH.nil
              · have z29 := z27.nil
                refine to_bs0 73 rfl rfl rfl (hK.out _ _ z29.below fun _ => ?_)
                revert z29; generalize World.alloc v28 _ = v30; intro z29
                simp only [Act.put, List.setIfInBounds_toArray, List.set_cons_zero, List.set_cons_succ]
                clear hK
                refine wpAnyH_ready (rs := [3]) (by kernel_rfl) (by simp) ?_
                refine AllReadyH.cons (o := _) rfl (fun K hK => ?_) AllReadyH.nil
                · refine to_app 75 (.tmp 73) (.tmp 74) rfl rfl rfl wm.heap.size (.slice (some ⟨v28.heap.size, 0, none⟩) 0 0) (· < wm.heap.size) [] P A14 c14 rfl rfl (z29.own _ _ rfl) (HDPW.out _ z29.below) (by simp; omega) z29.below.size (fun A33 c34 v32 hO hG hA => ?_)
                  have z31 := z29.app hO hG hA
                  refine hK.out _ _ z31.below fun _ => ?_
                  clear hO hG hA
                  simp only [Act.put, List.setIfInBounds_toArray, List.set_cons_zero, List.set_cons_succ]
                  clear hK
                  refine wpAnyH_ready (rs := [6]) (by kernel_rfl) (by simp) ?_
                  refine AllReadyH.cons (o := _) rfl (fun K hK => ?_) AllReadyH.nil
                  · refine to_app 78 (.tmp 75) (.tmp 77) rfl rfl rfl wm.heap.size (.slice A33 (([] : List (List UInt8)).length + P.length) c34) (· = v0.heap.size) ([] ++ P) [d] (some ⟨v0.heap.size, 0, none⟩) 1 rfl rfl (z31.own _ _ rfl) (DL.one (z31.row _ rfl).1 HD.out) (by simp; omega) z31.below.size (fun A37 c38 v36 hO hG hA => ?_)
                    have z35 := z31.app hO hG hA
                    refine hK.out _ _ z35.below fun _ => ?_
                    clear hO hG hA
                    simp only [Act.put, List.setIfInBounds_toArray, List.set_cons_zero, List.set_cons_succ]
                    clear hK
                    have HO := Lib.hid (z35.own _ _ rfl)
                    refine lone 12 (by kernel_rfl) rfl (fun K5 hK5 => to_bs3 84 (.tmp 72) (.tmp 78) (.tmp 83) A14 A37 A14 P.length (([] ++ P : List (List UInt8)).length + [d].length) (P.length / 2) c14 c38 c14 rfl rfl rfl (by kernel_rfl) (by kernel_rfl) (by kernel_rfl) (hK5 _ _ (z35.below.alloc z35.below.size (.cells #[.slice A14 P.length c14, .slice A37 (([] ++ P : List (List UInt8)).length + [d].length) c38, .slice A14 (P.length / 2) c14] 30)) ?_))
                    simp only [Act.put, List.setIfInBounds_toArray, List.set_cons_zero, List.set_cons_succ]
                    refine tk_val 13 85 (.int .i64 3) rfl (by kernel_rfl) (by kernel_rfl) (by kernel_rfl) (fun _ _ _ _ h => h) rfl rfl (fun w _ => ev_len3 (.tmp 84) (some ⟨v36.heap.size, 0, none⟩) 3 3 rfl (by kernel_rfl)) (z35.below.alloc z35.below.size (.cells #[.slice A14 P.length c14, .slice A37 (([] ++ P : List (List UInt8)).length + [d].length) c38, .slice A14 (P.length / 2) c14] 30)) ?_
                    simp only [Act.put, List.setIfInBounds_toArray, List.set_cons_zero, List.set_cons_succ]
                    refine wpAnyH_done (by kernel_rfl) (NoPanic.normal ?_) _
                    have HE := Lib.hid z35.below
                    clear z35
                    go_wp2_with fail
                    go_meet
                    exact ⟨v36, A37, c38, rfl, rfl, rfl, HO.out, HE.out, rfl⟩
          case rest =>
            rename World => wx
            obtain ⟨wy, A78, c78, rfl, rfl, rfl, hown, hby, hwx⟩ := hcut
            obtain ⟨A78', c78', e4, hd78⟩ := hown.dl
            injection e4 with e41 e43 e42
            clear e43
            subst e41 e42
            have hzy := hby.size
            have hnew := heap_alloc_new wy (.cells #[.slice A14 P.length c14, .slice A78 (([] ++ P : List (List UInt8)).length + [d].length) c78, .slice A14 (P.length / 2) c14] 30)
            rw [← hwx] at hnew
            have hbx : Below wy.heap.size wy wx := by rw [hwx]; exact (Below.refl _ _).alloc (Nat.le_refl _) _
            have hzx : wy.heap.size < wx.heap.size := (Array.getElem?_eq_some_iff.1 hnew).1
            have HBX := Lib.hid (hby.trans (hbx.mono hzy))
            have HBX3 := Lib.hid (HBM3.out.trans (HBX.out.mono HBM3.out.size))
            have TRI := Lib.hid (show ∀ ww, Below wx.heap.size wx ww → Tri ww wy.heap.size [(A14, c14, P), (A78, c78, ([] ++ P) ++ [d]), (A14, c14, P.take (P.length / 2))] from fun ww h => by
              have hs := h.size
              have hp := (HDPW.out ww (HBX.out.trans (h.mono (by omega)))).keep (w' := ww) (S' := (· < ww.heap.size)) fun i hi => ⟨by omega, rfl⟩
              have hc := (h.block _ hzx).trans hnew
              intro j x hx
              match j, hx with
              | 0, hx => simp at hx; subst hx; exact ⟨cell_of_row ww _ 0 _ _ _ hc, hp, hP5⟩
              | 1, hx =>
                simp at hx; subst hx
                refine ⟨?_, ?_, by have := HP5.out; simp; omega⟩
                · rw [cell_of_row ww _ 1 _ _ _ hc]; simp
                · have := hd78.keep (w' := ww) (S' := (· < ww.heap.size)) fun i hi => ⟨by omega, (h.block i (by omega)).trans (hbx.block i hi.2)⟩
                  simpa using this
              | 2, hx =>
                simp at hx; subst hx
                refine ⟨?_, hp.take _, by rw [List.length_take]; omega⟩
                rw [cell_of_row ww _ 2 _ _ _ hc]
                simp
                omega
              | j + 3, hx => simp at hx)
            obtain ⟨PS, hPS⟩ : ∃ PS, PS = [(A14, c14, P), (A78, c78, ([] ++ P) ++ [d]), (A14, c14, P.take (P.length / 2))] := ⟨_, rfl⟩
            have hPL : PS.length = 3 := by rw [hPS]; rfl
            rw [← hPS] at TRI
            have HPL := Lib.hid hPL
            obtain ⟨gy, hgy⟩ : ∃ gy, gy = wy.heap.size := ⟨_, rfl⟩
            rw [← hgy] at TRI ⊢
            clear hown hd78 hnew hbx hwx hby hPS hPL hgy
            go_wp2_with fail
            go_loopw [86] (fun x wr => ∃ r : Nat, r ≤ 3 ∧ x = .int .i64 r ∧ Below wx.heap.size wx wr) (fun x _ => 3 - (intOf x).toNat)
            case atStart => exact ⟨0, by omega, rfl, Below.refl _ _⟩
            case round =>
              rename World => wr
              obtain ⟨r, hr, rfl, hb⟩ := hrel
              have HBR := Lib.hid hb
              have HBR3 := Lib.hid (HBX3.out.trans (hb.mono HBX3.out.size))
              have hzr := hb.size
              by_cases hr3 : r < 3
              · obtain ⟨⟨Aj, cj, Pj⟩, hx⟩ : ∃ x, PS[r]? = some x := ⟨_, List.getElem?_eq_getElem (by rw [HPL.out]; exact hr3)⟩
                obtain ⟨hcj, hdj, hlj⟩ := TRI.out wr hb r _ hx
                simp only at hcj hdj hlj
                have HX := Lib.hid hx
                have HDJ := Lib.hid hdj
                have hrd := (KEEP.out _ HBR3.out).2.2.1.range
                have C17 := Lib.hid (Climb_any F0 d HD.out i m Pj Aj cj wr hF2 hF1 hdj (by omega) (KEEP.out _ HBR3.out).2.1)
                have C18 := Lib.hid (fun ww (h : Below wr.heap.size wr ww) => rClimb_any F0 d HD.out i m Pj Aj cj ww hF2 hF1 (HDJ.out.keep fun i hi => ⟨by have := h.size; omega, h.block i hi⟩) (by omega))
                have hxl := crd_len F0 d i m Pj
                generalize crd F0 d i m Pj = X at C17 C18 hxl
                generalize cre F0 i m Pj = ex at C17 C18
                have HXL := Lib.hid hxl
                have q2 := eq_self X hxl
                have KR0 := Lib.hid (show ∀ ww, Below wr.heap.size wr ww → RowB ww w.heap.size 26 d from fun ww h => (KEEP.out ww (HBR3.out.trans (h.mono HBR3.out.size))).2.2.1)
                clear hb hx hdj hxl
                go_wp2_with (refine load_D rfl (.tmp 7) rfl w.heap.size 0 d rfl hrd HD.out ?_)
                refine C17.out.mono ?_
                rintro e w17 ⟨rfl, hb17⟩
                have hz17 := hb17.size
                have hn17 : RowB (w17.alloc (.cells (U (flb 32 [])).toArray 26)) w17.heap.size 26 (flb 32 []) := heap_alloc_new w17 _
                obtain ⟨W18, hW18⟩ : ∃ W18, (w17.alloc (.cells (U (flb 32 [])).toArray 26)).setRow w17.heap.size (U X).toArray = W18 := ⟨_, rfl⟩
                have hr18 : RowB W18 w17.heap.size 26 X := by rw [← hW18]; exact hn17.setRow X
                have hb18 : Below wr.heap.size wr W18 := hb17.trans (by rw [← hW18]; exact below_setRow ((Below.refl _ _).alloc (by omega) _) (by omega) _)
                have HR18 := Lib.hid hr18
                have HW18 := Lib.hid hW18
                have HB18 := Lib.hid hb18
                have hz18 := hr18.lt
                have hrd18 := (KR0.out _ hb18).range
                have C19 := Lib.hid (C18.out W18 hb18)
                clear hrd C17 C18 hb17 hr18 hb18 hW18
                go_wp2_with (first
                  | (refine store_B rfl (.tmp 20) (.tmp 96) rfl w17.heap.size (flb 32 []) X rfl rfl 26 hn17 HXL.out (by simp [flb]) ?_; generalize hW9 : World.setRow _ _ _ = W9; have e9 : W9 = W18 := hW9.symm.trans HW18.out; clear hW9; rw [e9]; clear e9 W9 HW18 hn17)
                  | (refine load_D rfl (.tmp 7) rfl w.heap.size 0 d rfl hrd18 HD.out ?_))
                refine C19.out.mono ?_
                rintro e w20 ⟨rfl, hb20⟩
                have hz20 := hb20.size
                have hn20 : RowB (w20.alloc (.cells (U (flb 32 [])).toArray 26)) w20.heap.size 26 (flb 32 []) := heap_alloc_new w20 _
                obtain ⟨W21, hW21⟩ : ∃ W21, (w20.alloc (.cells (U (flb 32 [])).toArray 26)).setRow w20.heap.size (U X).toArray = W21 := ⟨_, rfl⟩
                have hr21 : RowB W21 w20.heap.size 26 X := by rw [← hW21]; exact hn20.setRow X
                have hb21 : Below W18.heap.size W18 W21 := hb20.trans (by rw [← hW21]; exact below_setRow ((Below.refl _ _).alloc (by omega) _) (by omega) _)
                have HW21 := Lib.hid hW21
                have hl1 := (HR18.out.keep (hb21.block _ hz18)).range
                have hl2 := hr21.range
                have HFIN := Lib.hid (HBR.out.trans ((HB18.out.trans (hb21.mono (by omega))).mono hzr))
                clear hrd18 C19 hb20 hr21 hb21 hW21
                go_wp2_with (first
                  | (refine store_B rfl (.tmp 22) (.tmp 104) rfl w20.heap.size (flb 32 []) X rfl rfl 26 hn20 HXL.out (by simp [flb]) ?_; generalize hW9 : World.setRow _ _ _ = W9; have e9 : W9 = W21 := hW9.symm.trans HW21.out; clear hW9; rw [e9]; clear e9 W9 HW21 hn20)
                  | (refine load_D rfl (.tmp 20) rfl w17.heap.size 0 X rfl hl1 HXL.out ?_)
                  | (refine load_D rfl (.tmp 22) rfl w20.heap.size 0 X rfl hl2 HXL.out ?_))
                go_roundw
                case rel => exact ⟨r + 1, by omega, by go_num, HFIN.out⟩
                case measure => simp [intOf]; omega
              · have HFIN := Lib.hid (HBM.out.trans ((HBX.out.trans (hb.mono (by have := HBX.out.size; omega))).mono hzm))
                clear hb
                go_wp2_with fail
                go_roundw
                case rel => exact ⟨k + 1, by omega, by go_num, HFIN.out⟩
                case measure => simp [intOf]; omega
        · have HFIN := Lib.hid (HBKA.out.trans (HBM.out.mono hzzb))
          go_wp2_with fail
          go_roundw
          case rel => exact ⟨j + 1, by omega, by go_num, HFIN.out⟩
          case measure => simp [intOf]; omega
    · have HFIN := Lib.hid (KEEP.out _ HBK3.out).2.2.2
      go_wp2_with fail
      go_ret
      exact ⟨rfl, HFIN.out⟩
end Go.Proofs.YtgojodldnodjpaaDoor
