/- Keys: the reference's public keys, Root and Sign. -/
import Derived.Test.YteicbdjennjcdaaDoorW14
namespace Go.Proofs.YteicbdjennjcdaaDoor
set_option maxRecDepth 100000
open Go.RowKit

set_option maxHeartbeats 3200000 in
theorem rPublics_all (s : List UInt8) (m : Nat) (w : World) (hs : s.length = 32) (hm : m ≤ 1000000) :
    Calls Tryd.prog 35 #[.agg (U s).toArray, .int .i64 m] w fun e w' => ∃ A c, e = .returned (.slice A m c) ∧ OwnD w' w.heap.size (.slice A m c) (pubs s m) ∧ Below w.heap.size w w' := by
  have HS := Lib.hid hs
  clear hs
  obtain ⟨k1, hb1, hz1⟩ := box1 w (U s).toArray 23 _ rfl
  have R1 := Lib.hid (show RowB (w.alloc (.cells (U s).toArray 23)) w.heap.size 23 s from k1)
  have OE := ownD_empty (w.alloc (.cells (U s).toArray 23))
  have HE := Lib.hid (OE.low hb1.size)
  have HB1 := Lib.hid hb1
  have HZ1 := Lib.hid hz1
  rw [hz1] at OE
  have HOE := Lib.hid OE
  have HB2 := Lib.hid (hb1.alloc hb1.size (.cells #[] 23))
  clear k1 hb1 hz1 OE
  go_enter Tryd.func35, Tryd.ntmps35
  go_wp2_with fail
  go_loopw [5, 6] (fun v y wr => ∃ (k : Nat) (A : Option Addr) (c : Nat), v = .slice A k c ∧ y = .int .i64 k ∧ k ≤ m ∧ Hid (OwnD wr (w.heap.size + 1) (.slice A k c) (pubs s k)) ∧ Hid (Below (w.heap.size + 1) ((w.alloc (.cells (U s).toArray 23)).alloc (.cells #[] 23)) wr)) (fun _ y _ => m - (intOf y).toNat)
  case atStart => exact ⟨0, _, _, rfl, rfl, by omega, HOE, Lib.hid (Below.refl _ _)⟩
  case round =>
    obtain ⟨k, A, c, rfl, rfl, hk, HO, HB⟩ := hrel
    have hz : w.heap.size + 2 ≤ wr.heap.size := by have := HB.out.size; simp at this; omega
    have hR : RowB wr w.heap.size 23 s := (HB.out.block _ (by omega)).trans ((Below.heap_alloc _ _ _ (by rw [HZ1.out]; omega)).trans R1.out)
    by_cases hlt : k < m
    · have b1 : (k : Int) < m := by omega
      have HL := Lib.hid (pubs_len s k)
      go_wp2_with (refine load_B rfl (.tmp 2) rfl w.heap.size rfl 23 s hR HS.out ?_)
      refine (rSeed_all s k wr HS.out (by omega) (by omega)).mono ?_
      rintro e w5 ⟨rfl, hb5⟩
      have HO5 := Lib.hid (HO.out.step hb5)
      have HB5 := Lib.hid (HB.out.trans (hb5.mono (by omega)))
      have hz5 := hb5.size
      clear hb5 hR
      go_wp2_with fail
      refine (rPublic_all (sdK s k) w5 (sdK_len _ _)).mono ?_
      rintro e w6 ⟨rfl, hb6⟩
      have HO6 := Lib.hid (HO5.out.step hb6)
      have HB6 := Lib.hid (HB5.out.trans (hb6.mono (by omega)))
      have hz6 := hb6.size
      clear hb6
      have HP := Lib.hid (pubF_len (sdK s k))
      go_wp2_with (first
        | (refine bs_dig rfl (.tmp 17) rfl (pubF (sdK s k)) rfl HP.out ?_)
        | (at_builtin; refine app_dig rfl (.tmp 13) (.tmp 18) rfl (w.heap.size + 1) w6.heap.size _ (pubs s k) (pubF (sdK s k)) rfl rfl (HO6.out.alloc _) (heap_alloc_new w6 _) HP.out (by rw [HL.out]; omega) (by rw [World.size_alloc]; omega) ?_; intro v7 w7 hO7 hg7; obtain ⟨A7, c7, rfl⟩ := hO7.slice))
      go_roundw
      case rel =>
        rw [show (pubs s k ++ [pubF (sdK s k)]).length = k + 1 by simp [HL.out]] at hO7
        rw [HL.out]
        refine ⟨k + 1, A7, c7, rfl, by go_num, by omega, Lib.hid ?_, Lib.hid ?_⟩
        · rw [pubs_succ]; exact hO7
        · exact (below_ownD (HB6.out.alloc (by omega) _) hg7 (HO6.out.alloc _) (by omega) (by rw [World.size_alloc]; omega))
      case measure => simp [intOf]; omega
    · obtain rfl : k = m := by omega
      clear hR
      go_wp2_with fail
      go_ret
      exact ⟨A, c, rfl, HO.out.low (by omega), HB1.out.trans (((Below.refl _ _).alloc (Nat.le_refl _) _).mono (by rw [HZ1.out]; omega) |>.trans (HB.out.mono (by omega)))⟩

set_option maxHeartbeats 1600000 in
theorem rRoot_all (f : Nat) (hf : f = 1099511627776) (s : List UInt8) (n : Int) (w : World) (hs : s.length = 32) :
    Calls Tryd.prog 13 #[.agg (U s).toArray, .int .i64 n] w fun e w' => e = .returned (.tuple #[.agg (U (rtd f s n)).toArray, .int .i64 (rte n)]) ∧ Below w.heap.size w w' := by
  have HS := Lib.hid hs
  have HF := Lib.hid hf
  obtain ⟨k1, k2, hb1, hz1⟩ := box2 w (U s).toArray (U (flb 32 [])).toArray 23 23 _ rfl
  have r1 : RowB ((w.alloc (.cells (U s).toArray 23)).alloc (.cells (U (flb 32 [])).toArray 23)) w.heap.size 23 s := k1
  have r2 : RowB ((w.alloc (.cells (U s).toArray 23)).alloc (.cells (U (flb 32 [])).toArray 23)) (w.heap.size + 1) 23 (flb 32 []) := k2
  have HB1 := Lib.hid hb1
  have HZ1 := Lib.hid hz1
  clear hs k1 k2 hb1 hz1 hf
  go_enter Tryd.func13, Tryd.ntmps13
  by_cases h : 1 ≤ n ∧ n ≤ 256
  · obtain ⟨m, rfl⟩ : ∃ m : Nat, n = m := ⟨n.toNat, by omega⟩
    go_wp2_with fail
    refine (rsize_all m _).mono ?_
    rintro e w2 ⟨rfl, rfl⟩
    rw [decide_eq_true h]
    go_wp2_with (refine load_B rfl (.tmp 2) rfl w.heap.size rfl 23 s r1 HS.out ?_)
    refine (rPublics_all s m ((w.alloc (.cells (U s).toArray 23)).alloc (.cells (U (flb 32 [])).toArray 23)) HS.out (by omega)).mono ?_
    rintro e w3 ⟨A, c, rfl, hO, hb3⟩
    have hb3' := HB1.out.trans (hb3.mono (by rw [HZ1.out]; omega))
    have C2 := rtree_all f (pubs s m) A c w3 (by rw [pubs_len, HF.out]; omega) (by rw [HF.out]; omega) (hO.dlw (pubs_len s m))
    rw [pubs_len] at C2
    have CC := Lib.hid C2
    have r3 := r2.keep (hb3.block _ (by rw [HZ1.out]; omega))
    have HB3 := Lib.hid hb3'
    have R3 := Lib.hid r3
    clear C2 hO hb3 hb3' r3 r1 r2
    go_wp2_with fail
    refine CC.out.mono ?_
    rintro e w4 ⟨rfl, hb4⟩
    have r4 := R3.out.keep (hb4.block _ R3.out.lt)
    have hrt : tree f (pubs s m) = rtd f s m := by rw [rtd, if_pos h, Int.toNat_natCast]
    have HRE := Lib.hid (show rte m = 0 from if_pos h)
    rw [hrt]
    have r5 := r4.setRow (rtd f s m)
    have HB4 := Lib.hid (HB3.out.trans (hb4.mono HB3.out.size))
    clear CC hb4 hrt
    go_wp2_with (refine store_B rfl (.tmp 4) (.tmp 13) rfl (w.heap.size + 1) (flb 32 []) (rtd f s m) rfl rfl 23 r4 (rtd_len _ _ _) (by simp [flb]) ?_)
    exact bodyPost_ret (res_two rfl _ _ _ _ _ _ rfl rfl r5 (rtd_len _ _ _)) rfl ⟨by rw [HRE.out]; rfl, below_setRow HB4.out (by omega) _⟩
  · have hrt : rtd f s n = z32 := if_neg h
    have hre : rte n = 60 := if_neg h
    rw [hrt, hre]
    go_wp2_with fail
    refine (rsize_all n _).mono ?_
    rintro e w2 ⟨rfl, rfl⟩
    rw [decide_eq_false h]
    have r5 := r2.setRow z32
    clear hrt hre r1
    go_wp2_with (refine store_B rfl (.tmp 4) (.tmp 9) rfl (w.heap.size + 1) (flb 32 []) z32 rfl rfl 23 r2 rfl (by simp [flb]) ?_)
    exact bodyPost_ret (res_two rfl _ _ _ _ _ _ rfl rfl r5 rfl) rfl ⟨rfl, below_setRow HB1.out (by omega) _⟩

set_option maxHeartbeats 1600000 in
theorem rSign_no (s m : List UInt8) (n i : Int) (w : World) (h : NoLf n i) :
    Calls Tryd.prog 15 #[.agg (U s).toArray, .int .i64 n, .int .i64 i, .agg (U m).toArray] w fun e w' => e = .returned (.tuple #[.agg Lf.zero.cs, .int .i64 60]) ∧ Below w.heap.size w w' := by
  go_enter Tryd.func15, Tryd.ntmps15
  go_wp2_with fail
  generalize hW1 : ((w.alloc _).alloc _).alloc _ = W1
  obtain ⟨_, _, b3, hb, _⟩ := box3b w s m W1 hW1
  clear hW1
  have HB := Lib.hid hb
  have B4 := b3.setRow Lf.zero
  refine (rsize_all n _).mono ?_
  rintro e w2 ⟨rfl, rfl⟩
  by_cases h1 : 1 ≤ n ∧ n ≤ 256
  · rw [decide_eq_true h1]
    by_cases h2 : i < 0
    · go_wp2_with (refine store_L rfl (.tmp 8) (.tmp 24) rfl (w.heap.size + 2) Lf.zero Lf.zero rfl rfl b3 ?_)
      exact bodyPost_ret (res_L rfl _ _ _ _ _ rfl rfl B4) rfl ⟨rfl, below_setRow HB.out (by omega) _⟩
    · have h3 : n ≤ i := by
        by_cases h3 : n ≤ i
        · exact h3
        · exact absurd ⟨h1, by omega, by omega⟩ h
      go_wp2_with (refine store_L rfl (.tmp 8) (.tmp 24) rfl (w.heap.size + 2) Lf.zero Lf.zero rfl rfl b3 ?_)
      exact bodyPost_ret (res_L rfl _ _ _ _ _ rfl rfl B4) rfl ⟨rfl, below_setRow HB.out (by omega) _⟩
  · rw [decide_eq_false h1]
    go_wp2_with (refine store_L rfl (.tmp 8) (.tmp 24) rfl (w.heap.size + 2) Lf.zero Lf.zero rfl rfl b3 ?_)
    exact bodyPost_ret (res_L rfl _ _ _ _ _ rfl rfl B4) rfl ⟨rfl, below_setRow HB.out (by omega) _⟩

set_option maxHeartbeats 3200000 in
theorem rSign_yes (f : Nat) (hf : f = 1099511627776) (s m : List UInt8) (n i : Nat) (w : World) (hn1 : 1 ≤ n) (hn2 : n ≤ 256) (hi : i < n) (hs : s.length = 32) (hm : m.length = 32) :
    Calls Tryd.prog 15 #[.agg (U s).toArray, .int .i64 n, .int .i64 i, .agg (U m).toArray] w fun e w' => ∃ t, e = .returned (.tuple #[.agg t.cs, .int .i64 0]) ∧ SgOk f s m n i w w' t ∧ Below w.heap.size w w' := by
  have HS := Lib.hid hs
  have HM := Lib.hid hm
  have HF := Lib.hid hf
  clear hs hm hf
  have c1 : (1 : Int) ≤ n := by omega
  have c2 : (n : Int) ≤ 256 := by omega
  have c3 : ¬ (i : Int) < 0 := by omega
  have c4 : ¬ (n : Int) ≤ i := by omega
  go_enter Tryd.func15, Tryd.ntmps15
  go_wp2_with fail
  generalize hW1 : ((w.alloc _).alloc _).alloc _ = W1
  obtain ⟨b1, b2, b3, hb1, hz1⟩ := box3b w s m W1 hW1
  have B1 := Lib.hid b1
  have B2 := Lib.hid b2
  have B3 := Lib.hid b3
  have HB1 := Lib.hid hb1
  have hsz1 : w.heap.size + 3 ≤ W1.heap.size := by omega
  clear hW1 b2 b3 hb1 hz1
  refine (rsize_all n _).mono ?_
  rintro e w2 ⟨rfl, rfl⟩
  rw [decide_eq_true (And.intro c1 c2)]
  go_wp2_with (refine load_B rfl (.tmp 4) rfl w.heap.size rfl 23 s b1 HS.out ?_)
  refine (rPublics_all s n _ HS.out (by omega)).mono ?_
  rintro e w4 ⟨A, c, rfl, hO4, hb4⟩
  have hz4 := hb4.size
  have hb4' := HB1.out.trans (hb4.mono (by omega))
  have C0 := rPath_any f (pubs s n) i A c w4 (by rw [pubs_len, HF.out]; omega) (by rw [HF.out]; omega) (hO4.dlw (pubs_len s n))
  rw [pubs_len] at C0
  have C := Lib.hid C0
  have HB4 := Lib.hid hb4'
  have HB4a := Lib.hid hb4
  clear hb4 hb4' hO4 b1 C0
  go_wp2_with fail
  refine C.out.mono ?_
  rintro e w5 ⟨A5, c5, rfl, hD5, hb5⟩
  have hpr : prp f (pubs s n) i = pth f (pubs s n) i := by rw [prp, if_pos (by rw [pubs_len]; omega), Int.toNat_natCast]
  rw [hpr] at hD5 ⊢
  clear C hpr
  go_wp2_with fail
  have hz5 := hb5.size
  have hbW := HB4.out.trans (hb5.mono (by omega))
  have hbV := HB4a.out.trans (hb5.mono (by omega))
  have KEEP := Lib.hid (show ∀ ww, Below w5.heap.size w5 ww → RowB ww w.heap.size 23 s ∧ RowB ww (w.heap.size + 1) 23 m ∧ BxL ww (w.heap.size + 2) Lf.zero ∧ Below w.heap.size w ww from fun ww h =>
    ⟨(h.block _ (by omega)).trans ((hbV.block _ (by omega)).trans B1.out), (h.block _ (by omega)).trans ((hbV.block _ (by omega)).trans B2.out), B3.out.keep ((h.block _ (by omega)).trans (hbV.block _ (by omega))), hbW.trans (h.mono hbW.size)⟩)
  have SB := Lib.hid (show ∀ ww, Below w5.heap.size w5 ww → RowB ww w.heap.size 23 s ∧ RowB ww (w.heap.size + 1) 23 m from fun ww h => ⟨(KEEP.out ww h).1, (KEEP.out ww h).2.1⟩)
  have STEP := Lib.hid (show ∀ ww w', Below w5.heap.size w5 ww → Below ww.heap.size ww w' → Below w5.heap.size w5 w' from fun ww w' h1 h2 => h1.trans (h2.mono h1.size))
  have HD5 := Lib.hid hD5
  have hz : w.heap.size + 3 ≤ w4.heap.size := by omega
  have hbx : Below w5.heap.size w5 w5.drew := (Below.refl _ _).drew
  clear B1 B2 B3 hbW hbV hb5 hD5 HB4 HB4a HB1 hsz1 hz4
  refine wp_region_noPanic ?_
  refine wp_region_held_drew (S := fun ww => RowB ww w.heap.size 23 s ∧ RowB ww (w.heap.size + 1) 23 m) (by kernel_rfl) (SB.out _ hbx) (fun h0 => ?_)
  refine tk_move 0 33 (.tmp 2) (.int .i64 i) rfl (by kernel_rfl) (by kernel_rfl) (by kernel_rfl) (fun _ _ _ _ h => h) rfl rfl rfl rfl h0 ?_
  simp only [Act.put, List.setIfInBounds_toArray, List.set_cons_zero, List.set_cons_succ]
  refine tk_load 1 34 (.tmp 4) w.heap.size (0) s rfl (by kernel_rfl) (by kernel_rfl) (by kernel_rfl) (fun _ _ _ _ h => h) rfl rfl rfl rfl (fun ww h => h.1.range) HS.out h0 ?_
  simp only [Act.put, List.setIfInBounds_toArray, List.set_cons_zero, List.set_cons_succ]
  refine tk_move 2 35 (.tmp 2) (.int .i64 i) rfl (by kernel_rfl) (by kernel_rfl) (by kernel_rfl) (fun _ _ _ _ h => h) rfl rfl rfl rfl h0 ?_
  simp only [Act.put, List.setIfInBounds_toArray, List.set_cons_zero, List.set_cons_succ]
  refine tk_load 4 37 (.tmp 7) (w.heap.size + 1) (0) m rfl (by kernel_rfl) (by kernel_rfl) (by kernel_rfl) (fun _ _ _ _ h => h) rfl rfl rfl rfl (fun ww h => h.2.range) HM.out h0 ?_
  simp only [Act.put, List.setIfInBounds_toArray, List.set_cons_zero, List.set_cons_succ]
  refine tk_move 6 39 (.tmp 10) (.slice A5 (pth f (pubs s n) i).length c5) rfl (by kernel_rfl) (by kernel_rfl) (by kernel_rfl) (fun _ _ _ _ h => h) rfl rfl rfl rfl h0 ?_
  simp only [Act.put, List.setIfInBounds_toArray, List.set_cons_zero, List.set_cons_succ]
  clear h0
  generalize w5.drew = V0 at hbx ⊢
  refine lone 3 (by kernel_rfl) rfl (fun K hK => to_call 17 36 _ _ #[.agg (U s).toArray, .int .i64 i] _ rfl rfl rfl rfl enters_rSeed (rSeed_all s i V0 HS.out (by omega) (by omega)) (fun e w6 hq => ?_))
  refine ⟨_, hq.1, ?_⟩
  have hx6 := STEP.out _ _ hbx hq.2
  refine hK _ _ (SB.out _ hx6) ?_
  simp only [Act.put, List.setIfInBounds_toArray, List.set_cons_zero, List.set_cons_succ]
  clear hK hq
  refine lone 5 (by kernel_rfl) rfl (fun K hK => to_call 40 38 _ _ #[.agg (U (sdK s i)).toArray, .agg (U m).toArray] _ rfl rfl rfl rfl enters_rcSign (rSign_all (sdK s i) m w6 (sdK_len _ _) HM.out) (fun e w7 hq => ?_))
  obtain ⟨A7, c7, h71, hO7, hb7⟩ := hq
  refine ⟨_, h71, ?_⟩
  have hx7 := STEP.out _ _ hx6 hb7
  refine hK _ _ (SB.out _ hx7) ?_
  simp only [Act.put, List.setIfInBounds_toArray, List.set_cons_zero, List.set_cons_succ]
  clear hK
  obtain ⟨t, ht⟩ : ∃ t : Lf, t = ⟨i, sgn (sdK s i) m, pth f (pubs s n) i, A7, c7, A5, c5⟩ := ⟨_, rfl⟩
  have HT := Lib.hid ht
  have HOK := Lib.hid (show ∀ ww, (∀ j, w.heap.size + 3 ≤ j → j < w7.heap.size → ww.heap[j]? = w7.heap[j]?) → w7.heap.size ≤ ww.heap.size → SgOk f s m n i w ww t from fun ww hk hz7 => by
    rw [ht]
    have hxz := hx6.size
    exact ⟨rfl, rfl, rfl, (hO7.dlw rfl |>.keep fun j hj => ⟨hj, rfl⟩) |> fun _ => by
      obtain ⟨A', c', e', hd'⟩ := hO7.dl
      injection e' with e1 _ e3
      subst e1 e3
      exact ⟨hd'.keep fun j hj => ⟨⟨by omega, by omega⟩, hk j (by omega) hj.2⟩, HD5.out.keep fun j hj => ⟨⟨by omega, by have := hx7.size; omega⟩, (hk j (by omega) (by have := hx7.size; omega)).trans (hx7.block j hj.2)⟩⟩⟩)
  refine tk_val 7 40 (.agg t.cs) rfl (by kernel_rfl) (by kernel_rfl) (by kernel_rfl) (fun _ _ _ _ h => h) rfl rfl (fun _ _ => ev_buildL (.tmp 33) (.tmp 38) (.tmp 39) t rfl (by rw [HT.out]; rfl) (by rw [HT.out]; rfl) (by rw [HT.out]; rfl)) (SB.out _ hx7) ?_
  simp only [Act.put, List.setIfInBounds_toArray, List.set_cons_zero, List.set_cons_succ]
  have B7 := (KEEP.out _ hx7).2.2.1
  have B8 := B7.setRow t
  have HFIN := Lib.hid (below_setRow (KEEP.out _ hx7).2.2.2 (Nat.le_add_right _ 2) t.cs)
  have HS8 := Lib.hid (HOK.out (w7.setRow (w.heap.size + 2) t.cs) (fun j h1 h2 => setRow_keep _ _ _ _ (by omega)) (by simp))
  have hS8 : RowB (w7.setRow (w.heap.size + 2) t.cs) w.heap.size 23 s ∧ RowB (w7.setRow (w.heap.size + 2) t.cs) (w.heap.size + 1) 23 m := ⟨(SB.out _ hx7).1.keep (setRow_keep _ _ _ _ (by omega)), (SB.out _ hx7).2.keep (setRow_keep _ _ _ _ (by omega))⟩
  clear HOK ht HT hx6 hO7 hb7 KEEP STEP HD5 hbx
  refine lone 8 (by kernel_rfl) rfl (fun K hK => to_storeL (.tmp 8) (.tmp 40) rfl rfl rfl (w.heap.size + 2) Lf.zero t rfl rfl B7 ?_)
  refine hK _ _ hS8 ?_
  refine tk_assign 9 9 (.const (.int .i64 0)) (.int .i64 0) rfl (by kernel_rfl) (by kernel_rfl) (by kernel_rfl) (fun _ _ _ _ h => h) rfl rfl rfl rfl hS8 ?_
  simp only [Act.put, List.setIfInBounds_toArray, List.set_cons_zero, List.set_cons_succ]
  refine wpAnyH_done (by kernel_rfl) (NoPanic.normal ?_) _
  go_wp2_with fail
  exact bodyPost_ret (res_L rfl _ _ _ _ _ rfl rfl B8) rfl ⟨t, rfl, HS8.out, HFIN.out⟩
end Go.Proofs.YteicbdjennjcdaaDoor
