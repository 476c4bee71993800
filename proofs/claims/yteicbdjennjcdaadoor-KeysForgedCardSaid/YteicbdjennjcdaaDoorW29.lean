/- Keys: KeysTree. -/
import Derived.Test.YteicbdjennjcdaaDoorW27
import Derived.Deep.CutRange
namespace Go.Proofs.YteicbdjennjcdaaDoor
set_option maxRecDepth 100000
open Go.RowKit

theorem enters_Climb : Enters Tryd.prog 29 := enters_of Tryd.func29 (by kernel_rfl) rfl
theorem enters_cVerify : Enters Tryd.prog 30 := enters_of Tryd.func30 (by kernel_rfl) rfl

set_option maxHeartbeats 6400000 in
theorem tree_law (sd : List UInt8) (n i : Int) (m : List UInt8) (w : World) (_h1 : -9223372036854775808 ≤ n) (_h2 : n ≤ 9223372036854775807) (hi1 : -9223372036854775808 ≤ i) (hi2 : i ≤ 9223372036854775807) (hs : sd.length = 32) (hm : m.length = 32) (hk : KR w Kt) :
    Calls Tryd.prog 8 #[.agg (U sd).toArray, .int .i64 n, .int .i64 i, .agg (U m).toArray] w fun e w' => e = .returned (.bool true) ∧ Below w.heap.size w w' := by
  obtain ⟨f, hf⟩ : ∃ f, f = 1099511627776 := ⟨_, rfl⟩
  have HS := Lib.hid hs
  have HM := Lib.hid hm
  have HF := Lib.hid hf
  have HZ : Hid (z32.length = 32) := Lib.hid rfl
  have hlt0 := hk.lt
  go_enter Tryd.func8, Tryd.ntmps8
  go_upto_region 1 with fail
  generalize hW1 : (w.alloc _).alloc _ = W1
  obtain ⟨b1, b2, hb1, hz1⟩ := box2 w (U sd).toArray (U m).toArray 23 23 W1 hW1
  have F1 := Lib.hid (show RowB W1 w.heap.size 23 sd from b1)
  have F2 := Lib.hid (show RowB W1 (w.heap.size + 1) 23 m from b2)
  have HKR := Lib.hid (hk.keep (hb1.block 0 hlt0))
  have HB := Lib.hid hb1
  clear hW1 b1 b2 hb1 hz1 hs hm hf hk
  go_wp2_with fail
  refine (sane_all f HF.out W1 HKR.out).mono ?_
  rintro e w2 ⟨rfl, hb⟩
  have F1 := Lib.hid (F1.out.keep (hb.block _ F1.out.lt))
  have F2 := Lib.hid (F2.out.keep (hb.block _ F2.out.lt))
  have HKR := Lib.hid (HKR.out.keep (hb.block 0 HKR.out.lt))
  have HB := Lib.hid (HB.out.trans (hb.mono HB.out.size))
  clear hb
  go_wp2_with fail
  refine (rFew_all n Lf.zero w2).mono ?_
  rintro e w3 ⟨rfl, hb⟩
  have F1 := Lib.hid (F1.out.keep (hb.block _ F1.out.lt))
  have F2 := Lib.hid (F2.out.keep (hb.block _ F2.out.lt))
  have HKR := Lib.hid (HKR.out.keep (hb.block 0 HKR.out.lt))
  have HB := Lib.hid (HB.out.trans (hb.mono HB.out.size))
  clear hb
  obtain ⟨fw, hfw⟩ : ∃ fw, fewB n Lf.zero = fw := ⟨_, rfl⟩
  rw [hfw]
  cases fw with
  | false =>
    go_wp2_with fail
    go_ret
    exact ⟨rfl, HB.out⟩
  | true =>
    have hnn := (few_len hfw).1
    clear hfw
    have HRL := Lib.hid (rtd_len f sd n)
    have r1 := F1.out
    have C := Lib.hid (Root_all f HF.out sd n w3 HS.out HKR.out)
    go_wp2_with (refine load_B rfl (.tmp 4) rfl w.heap.size rfl 23 sd r1 HS.out ?_)
    refine C.out.mono ?_
    rintro e w4 ⟨rfl, hb⟩
    clear C r1
    have F1 := Lib.hid (F1.out.keep (hb.block _ F1.out.lt))
    have F2 := Lib.hid (F2.out.keep (hb.block _ F2.out.lt))
    have HKR := Lib.hid (HKR.out.keep (hb.block 0 HKR.out.lt))
    have HB := Lib.hid (HB.out.trans (hb.mono HB.out.size))
    clear hb
    have n0 := newD0 w4
    have HG := Lib.hid (newD w4 (rtd f sd n))
    go_upto_region 6 with (refine store_B rfl (.tmp 9) (.tmp 27) rfl w4.heap.size (flb 32 []) (rtd f sd n) rfl rfl 23 n0 HRL.out (by simp [flb]) ?_)
    generalize hW : World.setRow _ _ _ = w5
    obtain ⟨r0, hb⟩ := HG.out w5 hW
    have F1 := Lib.hid (F1.out.keep (hb.block _ F1.out.lt))
    have F2 := Lib.hid (F2.out.keep (hb.block _ F2.out.lt))
    have HKR := Lib.hid (HKR.out.keep (hb.block 0 HKR.out.lt))
    have HB := Lib.hid (HB.out.trans (hb.mono HB.out.size))
    clear hb
    have F3 := Lib.hid r0
    clear hW HG n0 r0
    by_cases hE : rte n = 0
    case neg =>
      have HRZ := Lib.hid (show rtd f sd n = z32 from if_neg fun h => hE (if_pos h))
      have r3 := F3.out
      rw [HRZ.out] at r3
      go_wp2_with (first
        | (refine load_B rfl (.tmp 9) rfl w4.heap.size rfl 23 z32 r3 HZ.out ?_)
        | (refine wl_eqD rfl (.tmp 31) (.tmp 32) z32 z32 HZ.out HZ.out rfl rfl rfl ?_))
      go_ret
      exact ⟨by simp, HB.out⟩
    have hn1 : 1 ≤ n ∧ n ≤ 256 := by unfold rte at hE; by_cases hh : 1 ≤ n ∧ n ≤ 256; exact hh; simp [hh] at hE
    rw [hE]
    clear hE
    obtain ⟨n, rfl⟩ : ∃ k : Nat, n = k := ⟨n.toNat, by omega⟩
    have hn10 : n ≤ 10 := by omega
    have HON : Hid (OwnD w5 w5.heap.size (.slice none 0 0) (pubs sd 0)) := Lib.hid (OwnD.nil _ _)
    go_wp2_with fail
    go_loopw [11, 35] (fun v y wr => ∃ (k : Nat) (A : Option Addr) (c : Nat), v = .slice A k c ∧ y = .int .i64 k ∧ k ≤ n ∧ Hid (OwnD wr w5.heap.size (.slice A k c) (pubs sd k)) ∧ Hid (Below w5.heap.size w5 wr)) (fun _ y _ => n - (intOf y).toNat)
    case atStart => exact ⟨0, _, _, rfl, rfl, by omega, HON, Lib.hid (Below.refl _ _)⟩
    case round =>
      obtain ⟨k, A, c, rfl, rfl, hk, HO, HBr⟩ := hrel
      have hz := HBr.out.size
      have hR := F1.out.keep (HBr.out.block _ F1.out.lt)
      have HKr := Lib.hid (HKR.out.keep (HBr.out.block 0 HKR.out.lt))
      by_cases hlt : k < n
      · have b1 : (k : Int) < n := by omega
        have HL := Lib.hid (pubs_len sd k)
        go_wp2_with (refine load_B rfl (.tmp 4) rfl w.heap.size rfl 23 sd hR HS.out ?_)
        refine (Seed_all sd k wr HS.out (by omega) (by omega) HKr.out).mono ?_
        rintro e w6 ⟨rfl, hb6⟩
        have HO6 := Lib.hid (HO.out.step hb6)
        have HB6 := Lib.hid (HBr.out.trans (hb6.mono hz))
        have hz6 := hb6.size
        have HK6 := Lib.hid (HKr.out.keep (hb6.block 0 HKr.out.lt))
        clear hb6 hR
        go_wp2_with fail
        refine (Public_all (sdK sd k) w6 (sdK_len _ _) HK6.out).mono ?_
        rintro e w7 ⟨rfl, hb7⟩
        have HO7 := Lib.hid (HO6.out.step hb7)
        have HB7 := Lib.hid (HB6.out.trans (hb7.mono (by omega)))
        have hz7 := hb7.size
        clear hb7
        have HP := Lib.hid (pubF_len (sdK sd k))
        go_wp2_with (first
          | (refine bs_dig rfl (.tmp 42) rfl (pubF (sdK sd k)) rfl HP.out ?_)
          | (at_builtin; refine app_dig rfl (.tmp 38) (.tmp 43) rfl w5.heap.size w7.heap.size _ (pubs sd k) (pubF (sdK sd k)) rfl rfl (HO7.out.alloc _) (heap_alloc_new w7 _) HP.out (by rw [HL.out]; omega) (by simp; omega) ?_; intro v8 w8 hO8 hg8; obtain ⟨A8, c8, rfl⟩ := hO8.slice))
        go_roundw
        case rel =>
          rw [show (pubs sd k ++ [pubF (sdK sd k)]).length = k + 1 by simp [HL.out]] at hO8
          rw [HL.out]
          refine ⟨k + 1, A8, c8, rfl, by go_num, by omega, Lib.hid ?_, Lib.hid ?_⟩
          · rw [pubs_succ]; exact hO8
          · exact (below_ownD (HB7.out.alloc (by omega) _) hg8 (HO7.out.alloc _) (by omega) (by simp; omega))
        case measure => simp [intOf]; omega
      · obtain rfl : k = n := by omega
        clear hR HKr hz
        have hb := HBr.out
        have F1 := Lib.hid (F1.out.keep (hb.block _ F1.out.lt))
        have F2 := Lib.hid (F2.out.keep (hb.block _ F2.out.lt))
        have F3 := Lib.hid (F3.out.keep (hb.block _ F3.out.lt))
        have HKR := Lib.hid (HKR.out.keep (hb.block 0 HKR.out.lt))
        have HB := Lib.hid (HB.out.trans (hb.mono HB.out.size))
        clear hb
        have HDL := Lib.hid (HO.out.dlw (pubs_len sd k))
        clear HO HBr
        go_upto_region 14 with fail
        go_cut [49] from 46 to 49 (fun c wx => c = .bool false ∧ Hid (Below wr.heap.size wr wx))
        case first =>
          refine wp_region_noPanic ?_
          have h0 : Below wr.heap.size wr wr.drew := (Below.refl _ _).drew
          have KEEP := Lib.hid (show ∀ ww, Below wr.heap.size wr ww → RowB ww w4.heap.size 23 (rtd f sd k) from fun ww h => F3.out.keep (h.block _ F3.out.lt))
          refine wp_region_held_drew (S := fun ww => Below wr.heap.size wr ww) (by kernel_rfl) h0 (fun _ => ?_)
          generalize wr.drew = V0 at h0 ⊢
          refine tk_move 0 46 (.tmp 11) (.slice A k c) rfl (by kernel_rfl) (by kernel_rfl) (by kernel_rfl) (fun _ _ _ _ h => h) rfl rfl rfl rfl h0 ?_
          simp only [Act.put, List.setIfInBounds_toArray, List.set_cons_zero, List.set_cons_succ]
          refine tk_load 2 48 (.tmp 9) w4.heap.size (0) (rtd f sd k) rfl (by kernel_rfl) (by kernel_rfl) (by kernel_rfl) (fun _ _ _ _ h => h) rfl rfl rfl rfl (fun ww h => (KEEP.out ww h).range) HRL.out h0 ?_
          simp only [Act.put, List.setIfInBounds_toArray, List.set_cons_zero, List.set_cons_succ]
          have C := tree_all f (pubs sd k) A c V0 (by rw [pubs_len, HF.out]; omega) (by rw [HF.out]; omega) (HDL.out.keep fun i hi => ⟨by have := h0.size; omega, h0.block i hi⟩) (HKR.out.keep (h0.block 0 HKR.out.lt))
          rw [pubs_len] at C
          have STEP := Lib.hid (show ∀ ww w', Below wr.heap.size wr ww → Below ww.heap.size ww w' → Below wr.heap.size wr w' from fun ww w' h1 h2 => h1.trans (h2.mono h1.size))
          refine lone 1 (by kernel_rfl) rfl (fun K hK => to_call 28 47 _ _ #[.slice A k c] _ rfl rfl rfl rfl enters_Tree (C) (fun e V1 hq => ?_))
          refine ⟨_, hq.1, ?_⟩
          have h1 := STEP.out _ _ h0 hq.2
          refine hK _ _ h1 ?_
          simp only [Act.put, List.setIfInBounds_toArray, List.set_cons_zero, List.set_cons_succ]
          clear hK hq
          have HTR := Lib.hid (show tree f (pubs sd k) = rtd f sd k by rw [rtd, if_pos hn1, Int.toNat_natCast])
          rw [HTR.out]
          refine tk_val 3 49 (.bool false) rfl (by kernel_rfl) (by kernel_rfl) (by kernel_rfl) (fun _ _ _ _ h => h) rfl rfl (fun _ _ => ev_neq (.tmp 47) (.tmp 48) (rtd f sd k) HRL.out rfl rfl rfl) h1 ?_
          simp only [Act.put, List.setIfInBounds_toArray, List.set_cons_zero, List.set_cons_succ]
          refine wpAnyH_done (by kernel_rfl) (NoPanic.normal ?_) _
          have H1 := Lib.hid h1
          clear h0 h1 C
          try (go_wp2_with fail)
          go_meet
          exact ⟨rfl, H1⟩
        case rest =>
          obtain ⟨rfl, hb'⟩ := hcut
          have hb := hb'.out
          clear hb'
          have HDL := Lib.hid (HDL.out.keep (w' := wc) (S' := (· < wc.heap.size)) fun i hi => ⟨by have := hb.size; omega, hb.block i hi⟩)
          have F1 := Lib.hid (F1.out.keep (hb.block _ F1.out.lt))
          have F2 := Lib.hid (F2.out.keep (hb.block _ F2.out.lt))
          have F3 := Lib.hid (F3.out.keep (hb.block _ F3.out.lt))
          have HKR := Lib.hid (HKR.out.keep (hb.block 0 HKR.out.lt))
          have HB := Lib.hid (HB.out.trans (hb.mono HB.out.size))
          clear hb
          have r1 := F1.out
          have r2 := F2.out
          have C := Lib.hid (Sign_any f HF.out sd m k i wc HS.out HM.out HKR.out)
          go_wp2_with (first | (refine load_B rfl (.tmp 4) rfl w.heap.size rfl 23 sd r1 HS.out ?_) | (refine load_B rfl (.tmp 7) rfl (w.heap.size + 1) rfl 23 m r2 HM.out ?_))
          refine C.out.mono ?_
          rintro e w6 ⟨t, x, rfl, hsg, hb⟩
          clear C r1 r2
          have HDL := Lib.hid (HDL.out.keep (w' := w6) (S' := (· < w6.heap.size)) fun i hi => ⟨by have := hb.size; omega, hb.block i hi⟩)
          have F1 := Lib.hid (F1.out.keep (hb.block _ F1.out.lt))
          have F2 := Lib.hid (F2.out.keep (hb.block _ F2.out.lt))
          have F3 := Lib.hid (F3.out.keep (hb.block _ F3.out.lt))
          have HKR := Lib.hid (HKR.out.keep (hb.block 0 HKR.out.lt))
          have HB := Lib.hid (HB.out.trans (hb.mono HB.out.size))
          clear hb
          have HOt := Lib.hid hsg.ok
          have SG1 := Lib.hid hsg
          clear hsg
          have n0 := newL0 w6
          have HG := Lib.hid (newL w6 t)
          go_upto_region 17 with (refine store_L rfl (.tmp 13) (.tmp 56) rfl w6.heap.size Lf.zero t rfl rfl n0 ?_)
          generalize hW : World.setRow _ _ _ = w7
          obtain ⟨r0, hb⟩ := HG.out w7 hW
          have HDL := Lib.hid (HDL.out.keep (w' := w7) (S' := (· < w7.heap.size)) fun i hi => ⟨by have := hb.size; omega, hb.block i hi⟩)
          have F1 := Lib.hid (F1.out.keep (hb.block _ F1.out.lt))
          have F2 := Lib.hid (F2.out.keep (hb.block _ F2.out.lt))
          have F3 := Lib.hid (F3.out.keep (hb.block _ F3.out.lt))
          have HOt := Lib.hid (hok1 HOt.out hb)
          have HKR := Lib.hid (HKR.out.keep (hb.block 0 HKR.out.lt))
          have HB := Lib.hid (HB.out.trans (hb.mono HB.out.size))
          clear hb
          have F5 := Lib.hid r0
          clear hW HG n0 r0
          by_cases hn : NoLf k i
          · obtain ⟨_, hx⟩ := SG1.out.no hn
            subst hx
            by_cases h0 : i < 0
            · go_wp2_with fail
              go_ret
              exact ⟨rfl, HB.out⟩
            · have hki : (k : Int) ≤ i := by
                by_cases hki : (k : Int) ≤ i
                · exact hki
                · exact absurd ⟨hn1, by omega, by omega⟩ hn
              go_wp2_with fail
              go_ret
              exact ⟨rfl, HB.out⟩
          obtain ⟨t1, t2, t3, hx⟩ := SG1.out.yes hn
          simp only [NoLf, Classical.not_not] at hn
          obtain ⟨i, rfl⟩ : ∃ k : Nat, i = k := ⟨i.toNat, by omega⟩
          rw [Int.toNat_natCast, Int.toNat_natCast] at t3
          obtain ⟨ti, tC, tP, tcA, tcc, tpA, tpc⟩ := t
          simp only at t1 t2 t3
          subst t1 t2 t3 hx
          obtain ⟨_, _, _, hv4, hv5⟩ := VerOk_own f HF.out sd m k i (by omega) (by omega) (by omega)
          rw [recF_sgn] at hv5
          have HV4 := Lib.hid hv4
          have HV5 := Lib.hid hv5
          have HLN := Lib.hid (SG1.out.lens hnn)
          clear hv4 hv5 SG1
          obtain ⟨P, hP⟩ : ∃ P, pth f (pubs sd k) i = P := ⟨_, rfl⟩
          rw [hP] at HV4 HV5 HLN HOt F5 ⊢
          clear hP
          obtain ⟨lb, lo, rfl, _, hlc⟩ := HDL.out.2.2.2.2 (by rw [pubs_len]; omega)
          have hil : i < k := by omega
          have hcap := HDL.out.1
          rw [pubs_len] at hcap
          have HP32 := Lib.hid (pubF_len (sdK sd i))
          have KEEP := Lib.hid (show ∀ ww, Below w7.heap.size w7 ww → RowB ww (w.heap.size + 1) 23 m ∧ RowB ww w4.heap.size 23 (rtd f sd k) ∧ BxL ww w6.heap.size ⟨i, sgn (sdK sd i) m, P, tcA, tcc, tpA, tpc⟩ ∧ KR ww Kt ∧ Lf.ok ⟨i, sgn (sdK sd i) m, P, tcA, tcc, tpA, tpc⟩ ww (· < ww.heap.size) ∧ ww.rangeAt lb (lo + i * 32) (U (pubF (sdK sd i))) ∧ Below w.heap.size w ww from fun ww h => by
            obtain ⟨lb', lo', e', _, hlc⟩ := (HDL.out.keep (w' := ww) (S' := (· < ww.heap.size)) fun j hj => ⟨by have := h.size; omega, h.block j hj⟩).2.2.2.2 (by rw [pubs_len]; omega)
            injection e' with e'
            injection e' with i1 i2
            subst i1 i2
            exact ⟨F2.out.keep (h.block _ F2.out.lt), F3.out.keep (h.block _ F3.out.lt), F5.out.keep (h.block _ F5.out.lt), HKR.out.keep (h.block 0 HKR.out.lt), hok1 HOt.out h, hlc i _ (pubs_get sd k i hil), HB.out.trans (h.mono HB.out.size)⟩)
          have STEP := Lib.hid (show ∀ ww w', Below w7.heap.size w7 ww → Below ww.heap.size ww w' → Below w7.heap.size w7 w' from fun ww w' h1 h2 => h1.trans (h2.mono h1.size))
          clear hlc
          go_upto_region 19 with fail
          go_cut [15, 16] from 67 to 78 (fun x y wx => ∃ g, x = .pointer (some ⟨g, 0, none⟩) ∧ y = .int .i64 0 ∧ RowB wx g 23 (rtd f sd k) ∧ Below w7.heap.size w7 wx)
          case first =>
            refine wp_region_noPanic ?_
            have h0 : Below w7.heap.size w7 w7.drew := (Below.refl _ _).drew
            refine wp_region_held_drew (S := fun ww => Below w7.heap.size w7 ww) (by kernel_rfl) h0 (fun _ => ?_)
            generalize w7.drew = V0 at h0 ⊢
            refine tk_move 0 68 (.tmp 11) (.slice (some ⟨lb, lo, none⟩) k c) rfl (by kernel_rfl) (by kernel_rfl) (by kernel_rfl) (fun _ _ _ _ h => h) rfl rfl rfl rfl h0 ?_
            simp only [Act.put, List.setIfInBounds_toArray, List.set_cons_zero, List.set_cons_succ]
            refine tk_move 1 69 (.tmp 2) (.int .i64 i) rfl (by kernel_rfl) (by kernel_rfl) (by kernel_rfl) (fun _ _ _ _ h => h) rfl rfl rfl rfl h0 ?_
            simp only [Act.put, List.setIfInBounds_toArray, List.set_cons_zero, List.set_cons_succ]
            refine tk_val 2 70 (.pointer (some ⟨lb, lo + i * 32, none⟩)) rfl (by kernel_rfl) (by kernel_rfl) (by kernel_rfl) (fun _ _ _ _ h => h) rfl rfl (fun _ _ => ev_index (.tmp 68) (.tmp 69) lb lo k c i rfl rfl rfl hil) h0 ?_
            simp only [Act.put, List.setIfInBounds_toArray, List.set_cons_zero, List.set_cons_succ]
            refine tk_load 3 71 (.tmp 70) lb (lo + i * 32) (pubF (sdK sd i)) rfl (by kernel_rfl) (by kernel_rfl) (by kernel_rfl) (fun _ _ _ _ h => h) rfl rfl rfl rfl (fun ww h => (KEEP.out ww h).2.2.2.2.2.1) HP32.out h0 ?_
            simp only [Act.put, List.setIfInBounds_toArray, List.set_cons_zero, List.set_cons_succ]
            refine tk_move 4 72 (.tmp 2) (.int .i64 i) rfl (by kernel_rfl) (by kernel_rfl) (by kernel_rfl) (fun _ _ _ _ h => h) rfl rfl rfl rfl h0 ?_
            simp only [Act.put, List.setIfInBounds_toArray, List.set_cons_zero, List.set_cons_succ]
            refine tk_move 5 73 (.tmp 1) (.int .i64 k) rfl (by kernel_rfl) (by kernel_rfl) (by kernel_rfl) (fun _ _ _ _ h => h) rfl rfl rfl rfl h0 ?_
            simp only [Act.put, List.setIfInBounds_toArray, List.set_cons_zero, List.set_cons_succ]
            refine tk_val 6 74 (.pointer (some ⟨w6.heap.size, 2, none⟩)) rfl (by kernel_rfl) (by kernel_rfl) (by kernel_rfl) (fun _ _ _ _ h => h) rfl rfl (fun ww h => ev_fieldL2 (.tmp 13) w6.heap.size _ rfl rfl (KEEP.out ww h).2.2.1) h0 ?_
            simp only [Act.put, List.setIfInBounds_toArray, List.set_cons_zero, List.set_cons_succ]
            refine tk_val 7 75 (.slice tpA P.length tpc) rfl (by kernel_rfl) (by kernel_rfl) (by kernel_rfl) (fun _ _ _ _ h => h) rfl rfl (fun ww h => ev_loadS1 (.tmp 74) w6.heap.size 2 _ _ _ rfl rfl (KEEP.out ww h).2.2.1.c2) h0 ?_
            simp only [Act.put, List.setIfInBounds_toArray, List.set_cons_zero, List.set_cons_succ]
            have CL := Lib.hid (show ∀ ww, Below w7.heap.size w7 ww → Calls Tryd.prog 29 #[.agg (U (pubF (sdK sd i))).toArray, .int .i64 i, .int .i64 k, .slice tpA P.length tpc] ww fun e w' => e = .returned (.tuple #[.agg (U (rtd f sd k)).toArray, .int .i64 0]) ∧ Below ww.heap.size ww w' from fun ww h => by
              have := Climb_any f (pubF (sdK sd i)) HP32.out i k P tpA tpc ww (by rw [HF.out]; omega) (by rw [HF.out]; omega) (KEEP.out ww h).2.2.2.2.1.2 (Nat.le_trans HLN.out.2 (by decide)) (KEEP.out ww h).2.2.2.1
              rwa [HV4.out, HV5.out] at this)
            refine wpAnyH_ready (rs := [8, 12]) (by kernel_rfl) (by simp) ?_
            refine AllReadyH.cons (o := _) rfl (fun K hK => ?_) (AllReadyH.cons (o := _) rfl (fun K hK => ?_) AllReadyH.nil)
            · refine to_call 29 76 _ _ #[.agg (U (pubF (sdK sd i))).toArray, .int .i64 i, .int .i64 k, .slice tpA P.length tpc] _ rfl rfl rfl rfl enters_Climb (CL.out _ h0) (fun e V1 hq => ?_)
              refine ⟨_, hq.1, ?_⟩
              have h1 := STEP.out _ _ h0 hq.2
              refine hK.out _ _ h1 (fun _ => ?_)
              simp only [Act.put, List.setIfInBounds_toArray, List.set_cons_zero, List.set_cons_succ]
              clear hK hq
              refine tk_move 9 67 (.tmp 76) (.tuple #[.agg (U (rtd f sd k)).toArray, .int .i64 0]) rfl (by kernel_rfl) (by kernel_rfl) (by kernel_rfl) (fun _ _ _ _ h => h) rfl rfl rfl rfl h1 ?_
              simp only [Act.put, List.setIfInBounds_toArray, List.set_cons_zero, List.set_cons_succ]
              refine tk_val 10 77 (.agg (U (rtd f sd k)).toArray) rfl (by kernel_rfl) (by kernel_rfl) (by kernel_rfl) (fun _ _ _ _ h => h) rfl rfl (fun _ _ => ev_extract (.tmp 67) 0 _ _ rfl rfl rfl) h1 ?_
              simp only [Act.put, List.setIfInBounds_toArray, List.set_cons_zero, List.set_cons_succ]
              refine tk_val 11 78 (.int .i64 0) rfl (by kernel_rfl) (by kernel_rfl) (by kernel_rfl) (fun _ _ _ _ h => h) rfl rfl (fun _ _ => ev_extract (.tmp 67) 1 _ _ rfl rfl rfl) h1 ?_
              simp only [Act.put, List.setIfInBounds_toArray, List.set_cons_zero, List.set_cons_succ]
              have h2 : Below w7.heap.size w7 (V1.alloc (.cells (U (flb 32 [])).toArray 23)) := h1.alloc h1.size _
              refine lone 12 (by kernel_rfl) rfl (fun K hK => to_alloc 15 rfl rfl rfl ?_)
              refine hK _ _ h2 ?_
              simp only [Act.put, List.setIfInBounds_toArray, List.set_cons_zero, List.set_cons_succ]
              clear hK
              have rz := newD0 V1
              have hzz := h1.size
              generalize V1.alloc _ = V2 at rz h2 ⊢
              have r8 := rz.setRow (rtd f sd k)
              have h8 : Below w7.heap.size w7 (V2.setRow V1.heap.size (U (rtd f sd k)).toArray) := below_setRow h2 (by omega) _
              refine lone 13 (by kernel_rfl) rfl (fun K hK => to_store (.tmp 15) (.tmp 77) rfl rfl rfl V1.heap.size (flb 32 []) (rtd f sd k) rfl rfl rz (by simp [flb]) HRL.out ?_)
              refine hK _ _ h8 ?_
              clear hK
              refine tk_assign 14 16 (.tmp 78) (.int .i64 0) rfl (by kernel_rfl) (by kernel_rfl) (by kernel_rfl) (fun _ _ _ _ h => h) rfl rfl rfl rfl h8 ?_
              simp only [Act.put, List.setIfInBounds_toArray, List.set_cons_zero, List.set_cons_succ]
              refine wpAnyH_done (by kernel_rfl) (NoPanic.normal ?_) _
              try (go_wp2_with fail)
              go_meet
              exact ⟨V1.heap.size, rfl, rfl, r8, h8⟩
            · have h1 : Below w7.heap.size w7 (V0.alloc (.cells (U (flb 32 [])).toArray 23)) := h0.alloc h0.size _
              refine to_alloc 15 rfl rfl rfl ?_
              refine hK.out _ _ h1 (fun _ => ?_)
              simp only [Act.put, List.setIfInBounds_toArray, List.set_cons_zero, List.set_cons_succ]
              clear hK
              have rz0 := newD0 V0
              have hzz := h0.size
              generalize V0.alloc _ = V1 at rz0 h1 ⊢
              refine lone 8 (by kernel_rfl) rfl (fun K hK => to_call 29 76 _ _ #[.agg (U (pubF (sdK sd i))).toArray, .int .i64 i, .int .i64 k, .slice tpA P.length tpc] _ rfl rfl rfl rfl enters_Climb (CL.out _ h1) (fun e V2 hq => ?_))
              refine ⟨_, hq.1, ?_⟩
              have h2 := STEP.out _ _ h1 hq.2
              have rz := rz0.keep (hq.2.block _ rz0.lt)
              refine hK _ _ h2 ?_
              simp only [Act.put, List.setIfInBounds_toArray, List.set_cons_zero, List.set_cons_succ]
              clear hK hq
              refine tk_move 9 67 (.tmp 76) (.tuple #[.agg (U (rtd f sd k)).toArray, .int .i64 0]) rfl (by kernel_rfl) (by kernel_rfl) (by kernel_rfl) (fun _ _ _ _ h => h) rfl rfl rfl rfl h2 ?_
              simp only [Act.put, List.setIfInBounds_toArray, List.set_cons_zero, List.set_cons_succ]
              refine tk_val 10 77 (.agg (U (rtd f sd k)).toArray) rfl (by kernel_rfl) (by kernel_rfl) (by kernel_rfl) (fun _ _ _ _ h => h) rfl rfl (fun _ _ => ev_extract (.tmp 67) 0 _ _ rfl rfl rfl) h2 ?_
              simp only [Act.put, List.setIfInBounds_toArray, List.set_cons_zero, List.set_cons_succ]
              refine tk_val 11 78 (.int .i64 0) rfl (by kernel_rfl) (by kernel_rfl) (by kernel_rfl) (fun _ _ _ _ h => h) rfl rfl (fun _ _ => ev_extract (.tmp 67) 1 _ _ rfl rfl rfl) h2 ?_
              simp only [Act.put, List.setIfInBounds_toArray, List.set_cons_zero, List.set_cons_succ]
              have r8 := rz.setRow (rtd f sd k)
              have h8 : Below w7.heap.size w7 (V2.setRow V0.heap.size (U (rtd f sd k)).toArray) := below_setRow h2 (by omega) _
              refine lone 13 (by kernel_rfl) rfl (fun K hK => to_store (.tmp 15) (.tmp 77) rfl rfl rfl V0.heap.size (flb 32 []) (rtd f sd k) rfl rfl rz (by simp [flb]) HRL.out ?_)
              refine hK _ _ h8 ?_
              clear hK
              refine tk_assign 14 16 (.tmp 78) (.int .i64 0) rfl (by kernel_rfl) (by kernel_rfl) (by kernel_rfl) (fun _ _ _ _ h => h) rfl rfl rfl rfl h8 ?_
              simp only [Act.put, List.setIfInBounds_toArray, List.set_cons_zero, List.set_cons_succ]
              refine wpAnyH_done (by kernel_rfl) (NoPanic.normal ?_) _
              try (go_wp2_with fail)
              go_meet
              exact ⟨V0.heap.size, rfl, rfl, r8, h8⟩
          case rest =>
            obtain ⟨g, rfl, rfl, hg, hbc⟩ := hcut
            have hgl := hg.lt
            have KEEP2 := Lib.hid (show ∀ ww, Below wc.heap.size wc ww → RowB ww g 23 (rtd f sd k) ∧ Below w7.heap.size w7 ww from fun ww h => ⟨hg.keep (h.block _ hgl), hbc.trans (h.mono hbc.size)⟩)
            clear hg hbc
            go_upto_region 20 with fail
            refine wp_region_noPanic ?_
            have h0 : Below wc.heap.size wc wc.drew := (Below.refl _ _).drew
            refine wp_region_held_drew (S := fun ww => Below wc.heap.size wc ww) (by kernel_rfl) h0 (fun _ => ?_)
            generalize wc.drew = V0 at h0 ⊢
            have KEEP := Lib.hid (fun ww (h : Below wc.heap.size wc ww) => KEEP.out ww (KEEP2.out ww h).2)
            have STEP := Lib.hid (show ∀ ww w', Below wc.heap.size wc ww → Below ww.heap.size ww w' → Below wc.heap.size wc w' from fun ww w' h1 h2 => h1.trans (h2.mono h1.size))
            refine tk_move 0 79 (.tmp 16) (.int .i64 0) rfl (by kernel_rfl) (by kernel_rfl) (by kernel_rfl) (fun _ _ _ _ h => h) rfl rfl rfl rfl h0 ?_
            simp only [Act.put, List.setIfInBounds_toArray, List.set_cons_zero, List.set_cons_succ]
            refine tk_val 1 80 (.bool true) rfl (by kernel_rfl) (by kernel_rfl) (by kernel_rfl) (fun _ _ _ _ h => h) rfl rfl (fun _ _ => ev_eqE (.tmp 79) _ 0 0 true rfl rfl rfl rfl) h0 ?_
            simp only [Act.put, List.setIfInBounds_toArray, List.set_cons_zero, List.set_cons_succ]
            refine tk_move 2 81 (.tmp 80) (.bool true) rfl (by kernel_rfl) (by kernel_rfl) (by kernel_rfl) (fun _ _ _ _ h => h) rfl rfl rfl rfl h0 ?_
            simp only [Act.put, List.setIfInBounds_toArray, List.set_cons_zero, List.set_cons_succ]
            refine tkw_load 3 82 (.tmp 15) g (0) (rtd f sd k) rfl (by kernel_rfl) (by kernel_rfl) (by kernel_rfl) (fun _ _ _ _ h => h) (by kernel_rfl) rfl rfl rfl (fun ww h => (KEEP2.out ww h).1.range) HRL.out h0 ?_
            simp only [Act.put, List.setIfInBounds_toArray, List.set_cons_zero, List.set_cons_succ]
            refine tkw_load 4 83 (.tmp 9) w4.heap.size (0) (rtd f sd k) rfl (by kernel_rfl) (by kernel_rfl) (by kernel_rfl) (fun _ _ _ _ h => h) (by kernel_rfl) rfl rfl rfl (fun ww h => (KEEP.out ww h).2.1.range) HRL.out h0 ?_
            simp only [Act.put, List.setIfInBounds_toArray, List.set_cons_zero, List.set_cons_succ]
            refine tkw_val 5 84 (.bool true) rfl (by kernel_rfl) (by kernel_rfl) (by kernel_rfl) (fun _ _ _ _ h => h) (by kernel_rfl) rfl (fun _ _ => ev_eqDq (.tmp 82) (.tmp 83) (rtd f sd k) (rtd f sd k) true (decide_eq_true rfl) HRL.out HRL.out rfl rfl rfl) h0 ?_
            simp only [Act.put, List.setIfInBounds_toArray, List.set_cons_zero, List.set_cons_succ]
            refine tk_val 6 85 (.bool true) rfl (by kernel_rfl) (by kernel_rfl) (by kernel_rfl) (fun _ _ _ _ h => h) rfl rfl (fun _ _ => ev_pickT (.tmp 81) (.tmp 84) _ _ rfl rfl rfl) h0 ?_
            simp only [Act.put, List.setIfInBounds_toArray, List.set_cons_zero, List.set_cons_succ]
            refine tk_move 7 86 (.tmp 85) (.bool true) rfl (by kernel_rfl) (by kernel_rfl) (by kernel_rfl) (fun _ _ _ _ h => h) rfl rfl rfl rfl h0 ?_
            simp only [Act.put, List.setIfInBounds_toArray, List.set_cons_zero, List.set_cons_succ]
            refine tkw_val 8 87 (.slice (some ⟨lb, lo, none⟩) k c) rfl (by kernel_rfl) (by kernel_rfl) (by kernel_rfl) (fun _ _ _ _ h => h) (by kernel_rfl) rfl (fun _ _ => ev_move (.tmp 11) (.slice (some ⟨lb, lo, none⟩) k c) rfl rfl) h0 ?_
            simp only [Act.put, List.setIfInBounds_toArray, List.set_cons_zero, List.set_cons_succ]
            refine tkw_val 9 88 (.int .i64 i) rfl (by kernel_rfl) (by kernel_rfl) (by kernel_rfl) (fun _ _ _ _ h => h) (by kernel_rfl) rfl (fun _ _ => ev_move (.tmp 2) (.int .i64 i) rfl rfl) h0 ?_
            simp only [Act.put, List.setIfInBounds_toArray, List.set_cons_zero, List.set_cons_succ]
            refine tkw_val 10 89 (.pointer (some ⟨lb, lo + i * 32, none⟩)) rfl (by kernel_rfl) (by kernel_rfl) (by kernel_rfl) (fun _ _ _ _ h => h) (by kernel_rfl) rfl (fun _ _ => ev_index (.tmp 87) (.tmp 88) lb lo k c i rfl rfl rfl hil) h0 ?_
            simp only [Act.put, List.setIfInBounds_toArray, List.set_cons_zero, List.set_cons_succ]
            refine tkw_load 11 90 (.tmp 89) lb (lo + i * 32) (pubF (sdK sd i)) rfl (by kernel_rfl) (by kernel_rfl) (by kernel_rfl) (fun _ _ _ _ h => h) (by kernel_rfl) rfl rfl rfl (fun ww h => (KEEP.out ww h).2.2.2.2.2.1) HP32.out h0 ?_
            simp only [Act.put, List.setIfInBounds_toArray, List.set_cons_zero, List.set_cons_succ]
            refine tkw_load 12 91 (.tmp 7) (w.heap.size + 1) (0) m rfl (by kernel_rfl) (by kernel_rfl) (by kernel_rfl) (fun _ _ _ _ h => h) (by kernel_rfl) rfl rfl rfl (fun ww h => (KEEP.out ww h).1.range) HM.out h0 ?_
            simp only [Act.put, List.setIfInBounds_toArray, List.set_cons_zero, List.set_cons_succ]
            refine tkw_val 13 92 (.pointer (some ⟨w6.heap.size, 1, none⟩)) rfl (by kernel_rfl) (by kernel_rfl) (by kernel_rfl) (fun _ _ _ _ h => h) (by kernel_rfl) rfl (fun ww h => ev_fieldL1 (.tmp 13) w6.heap.size _ rfl rfl (KEEP.out ww h).2.2.1) h0 ?_
            simp only [Act.put, List.setIfInBounds_toArray, List.set_cons_zero, List.set_cons_succ]
            refine tkw_val 14 93 (.slice tcA (sgn (sdK sd i) m).length tcc) rfl (by kernel_rfl) (by kernel_rfl) (by kernel_rfl) (fun _ _ _ _ h => h) (by kernel_rfl) rfl (fun ww h => ev_loadS1 (.tmp 92) w6.heap.size 1 _ _ _ rfl rfl (KEEP.out ww h).2.2.1.c1) h0 ?_
            simp only [Act.put, List.setIfInBounds_toArray, List.set_cons_zero, List.set_cons_succ]
            have C := Verify_yes (pubF (sdK sd i)) m (sgn (sdK sd i) m) tcA tcc V0 HP32.out HM.out (sgn_len _ _) (KEEP.out _ h0).2.2.2.2.1.1 (KEEP.out _ h0).2.2.2.1
            rw [recF_sgn, decide_eq_true rfl, ← sgn_len (sdK sd i) m] at C
            refine lone 15 (by kernel_rfl) rfl (fun K hK => ?_)
            rw [if_pos (show Region.wanted _ _ = true from rfl)]
            refine wp_call 30 94 _ _ #[.agg (U (pubF (sdK sd i))).toArray, .agg (U m).toArray, .slice tcA (sgn (sdK sd i) m).length tcc] _ rfl rfl rfl enters_cVerify (C) (fun e V1 hq => ?_)
            refine ⟨_, hq.1, ?_⟩
            have h1 := STEP.out _ _ h0 hq.2
            refine hK _ _ h1 ?_
            simp only [Act.put, List.setIfInBounds_toArray, List.set_cons_zero, List.set_cons_succ]
            clear hK hq
            refine tk_val 16 95 (.bool true) rfl (by kernel_rfl) (by kernel_rfl) (by kernel_rfl) (fun _ _ _ _ h => h) rfl rfl (fun _ _ => ev_pickT (.tmp 86) (.tmp 94) _ _ rfl rfl rfl) h1 ?_
            simp only [Act.put, List.setIfInBounds_toArray, List.set_cons_zero, List.set_cons_succ]
            refine tk_assign 17 8 (.tmp 95) (.bool true) rfl (by kernel_rfl) (by kernel_rfl) (by kernel_rfl) (fun _ _ _ _ h => h) rfl rfl rfl rfl h1 ?_
            simp only [Act.put, List.setIfInBounds_toArray, List.set_cons_zero, List.set_cons_succ]
            refine wpAnyH_done (by kernel_rfl) (NoPanic.normal ?_) _
            have HFIN := Lib.hid (KEEP.out _ h1).2.2.2.2.2.2
            clear h0 h1 C
            go_wp2_with fail
            go_ret
            exact ⟨rfl, HFIN.out⟩
end Go.Proofs.YteicbdjennjcdaaDoor
