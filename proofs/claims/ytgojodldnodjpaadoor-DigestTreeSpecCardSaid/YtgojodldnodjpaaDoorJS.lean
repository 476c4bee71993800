/- Digest: DigestPlaces. -/
import Derived.Test.YtgojodldnodjpaaDoorJR
namespace Go.Proofs.YtgojodldnodjpaaDoor
open Go.ChangeShapes Go.WideShapes Go.ChangeAt Go.WideElems Go.RowKit

set_option maxRecDepth 100000 in
set_option maxHeartbeats 3200000 in
theorem places_all (l : List UInt8) (A : Option Addr) (cap : Nat) (at_ n : Int) (w : World) (hat1 : -9223372036854775808 ≤ at_) (hat2 : at_ ≤ 9223372036854775807) (_ : -9223372036854775808 ≤ n) (_ : n ≤ 9223372036854775807) (hl : Byt w (· < w.heap.size) l A cap) (hk : KR w Kt) :
    Calls Tryd.prog 9 #[.slice A l.length cap, .int .i64 at_, .int .i64 n] w fun e w' => e = .returned (.bool true) ∧ Below w.heap.size w w' := by
  have HL := Lib.hid hl
  have HK := Lib.hid hk
  have hlt0 := hk.lt
  have S0 := Lib.hid (sane_all w hk)
  clear hl hk
  go_enter Tryd.func9, Tryd.ntmps9
  go_wp2_with fail
  refine S0.out.mono ?_
  rintro e w1 ⟨rfl, hb1⟩
  have hz1 := hb1.size
  have D0 := Lib.hid (digestsOf_all l A cap w1 (HL.out.keep fun i hi => ⟨by omega, hb1.block i hi⟩))
  have HB1 := Lib.hid hb1
  clear hb1 S0
  go_wp2_with fail
  refine D0.out.mono ?_
  rintro e w2 ⟨v, L, rfl, ho, hll, hb2⟩
  obtain ⟨A2, c2, rfl, hdl⟩ := ho.dl
  have hz2 := hb2.size
  have hn24 : L.length ≤ 24 := by omega
  have HB2 := Lib.hid (HB1.out.trans (hb2.mono hz1))
  have HDL := Lib.hid hdl
  have hcap := hdl.1
  have hcm := hdl.2.1
  have KEEP := Lib.hid (show ∀ ww, Below w2.heap.size w2 ww → DL ww (· < ww.heap.size) L A2 c2 ∧ KR ww Kt ∧ Below w.heap.size w ww from fun ww h => by
    have hs := h.size
    exact ⟨HDL.out.keep fun i hi => ⟨by omega, h.block i hi.2⟩, HK.out.keep ((h.block 0 (by omega)).trans (HB2.out.block 0 hlt0)), HB2.out.trans (h.mono (by omega))⟩)
  clear D0 HB1 ho hdl hb2 hll
  by_cases hin : at_ < 0 ∨ (L.length : Int) ≤ at_
  · have C1 := Lib.hid (path_no L at_ A2 c2 w2 hin (by omega))
    have hfin := Lib.hid ((KEEP.out _ (Below.refl _ _)).2.2)
    rcases hin with hin | hin
    · go_wp2_with fail
      refine C1.out.mono ?_
      rintro e w' ⟨rfl, hw'⟩
      rw [hw']
      clear hw' w'
      go_wp2_with fail
      go_ret
      exact ⟨rfl, hfin.out⟩
    · have h0 : ¬ at_ < 0 := by omega
      go_wp2_with fail
      refine C1.out.mono ?_
      rintro e w' ⟨rfl, hw'⟩
      rw [hw']
      clear hw' w'
      go_wp2_with fail
      go_ret
      exact ⟨rfl, hfin.out⟩
  obtain ⟨i, rfl⟩ : ∃ i : Nat, at_ = i := ⟨at_.toNat, by omega⟩
  have hi : i < L.length := by omega
  obtain ⟨F0, hF0⟩ : ∃ F0 : Nat, F0 = 1099511627776 := ⟨_, rfl⟩
  have hF1 : F0 ≤ 1099511627776 := by omega
  have hF2 : 1099511627776 ≤ F0 := by omega
  clear hF0
  obtain ⟨k2b, o2, rfl, hS2, hat⟩ := HDL.out.2.2.2.2 (by omega)
  obtain ⟨d, hd⟩ : ∃ d, L[i]? = some d := ⟨_, List.getElem?_eq_getElem hi⟩
  have HDd := Lib.hid (HDL.out.2.2.2.1 d (List.mem_of_getElem? hd))
  have HR0 := Lib.hid (hat i d hd)
  have HD := Lib.hid hd
  clear hat hd hin
  have C1 := Lib.hid (path_yes F0 L i _ c2 w2 (by omega) hF1 hi (KEEP.out _ (Below.refl _ _)).1 (KEEP.out _ (Below.refl _ _)).2.1)
  have hpl := pth_len F0 L i (by omega)
  have hsl := stp_le F0 i L.length
  have C2 := Lib.hid (fun ww => lsteps_all F0 i L.length ww hi (by omega) hF1)
  rw [← hpl] at C2 hsl
  obtain ⟨P, hP⟩ : ∃ P, P = pth F0 L i := ⟨_, rfl⟩
  rw [← hP] at C1 C2 hpl hsl
  have HPL := Lib.hid hpl
  clear hP hpl
  have hi2 : (i : Int) < L.length := by omega
  have hi3 : ¬ (L.length : Int) ≤ i := by omega
  go_wp2_with fail
  refine C1.out.mono ?_
  rintro e w3 ⟨A3, c3, rfl, hop, hb3⟩
  have hz3 := hb3.size
  obtain ⟨A3', c3', e3, hdp⟩ := hop.dl
  injection e3 with e3 _ e4
  subst e3 e4
  have HDP := Lib.hid hdp
  have HB3 := Lib.hid hb3
  clear hop hdp hb3 C1
  go_wp2_with fail
  refine (C2.out w3).mono ?_
  rintro e w' ⟨rfl, hw'⟩
  rw [hw']
  clear hw' w'
  go_wp2_with fail
  generalize bits BinOp.and IntKind.i64 n 31 = m2
  generalize hW4 : w3.alloc _ = W4
  obtain ⟨h40, hb4, hz4⟩ := box1 w3 _ _ W4 hW4
  have HC4 := Lib.hid h40
  have HB4 := Lib.hid hb4
  have KEEP2 := Lib.hid (show ∀ ww, Below W4.heap.size W4 ww → DL ww (· < ww.heap.size) P A3 c3 ∧ KR ww Kt ∧ ww.rangeAt k2b (o2 + i * 32) (U d) ∧ Below w.heap.size w ww ∧ ww.heap[w3.heap.size]? = W4.heap[w3.heap.size]? from fun ww h => by
    have hs := h.size
    have h3 : Below w3.heap.size w3 ww := HB4.out.trans (h.mono (by omega))
    have h2 : Below w2.heap.size w2 ww := HB3.out.trans (h3.mono (by omega))
    exact ⟨HDP.out.keep fun i hi => ⟨by omega, h3.block i hi.2⟩, (KEEP.out ww h2).2.1, fun j u hu => (World.cell?_of_block (h2.block k2b hS2.2)).trans (HR0.out j u hu), (KEEP.out ww h2).2.2, h.block _ (by omega)⟩)
  clear h40 hb4 hW4
  go_loopw [62] (fun x wr => ∃ j : Nat, j ≤ 4 ∧ x = .int .i64 j ∧ Below W4.heap.size W4 wr) (fun x _ => 4 - (intOf x).toNat)
  case atStart => exact ⟨0, by omega, rfl, Below.refl _ _⟩
  case round =>
    obtain ⟨j, hj, rfl, hb⟩ := hrel
    have HBR := Lib.hid hb
    clear hb
    by_cases hj4 : j < 4
    · obtain ⟨m, hm⟩ : ∃ m : Int, wr.cell? ⟨w3.heap.size, j, none⟩ = some (.int .i64 m) := by
        have hc := (KEEP2.out _ HBR.out).2.2.2.2.trans HC4.out
        match j, hj4 with
        | 0, _ => exact ⟨_, cell_of_row wr _ 0 _ _ _ hc⟩
        | 1, _ => exact ⟨_, cell_of_row wr _ 1 _ _ _ hc⟩
        | 2, _ => exact ⟨_, cell_of_row wr _ 2 _ _ _ hc⟩
        | 3, _ => exact ⟨_, cell_of_row wr _ 3 _ _ _ hc⟩
      have hrd := (KEEP2.out _ HBR.out).2.2.1
      have CNO := Lib.hid (fun h => Climb_no F0 d HDd.out (i : Int) m P A3 c3 wr hF1 (by omega) h)
      by_cases c1 : (m : Int) ≤ i
      · have C7 := Lib.hid (CNO.out (.inr (.inr (.inr (.inl c1)))))
        clear CNO
        go_wp2_with (refine load_D rfl (.tmp 84) rfl k2b (o2 + i * 32) d rfl hrd HDd.out ?_)
        refine C7.out.mono ?_
        rintro e w7 ⟨rfl, hb7⟩
        have hn7 : RowB (w7.alloc (.cells (U (flb 32 [])).toArray 26)) w7.heap.size 26 (flb 32 []) := heap_alloc_new w7 _
        have HB8 := Lib.hid (below_setRow ((HBR.out.trans (hb7.mono HBR.out.size)).alloc (Nat.le_trans HBR.out.size hb7.size) (.cells (U (flb 32 [])).toArray 26)) (show W4.heap.size ≤ w7.heap.size from Nat.le_trans HBR.out.size hb7.size) (U z32).toArray)
        clear hb7
        go_wp2_with (first
            | (refine load_D rfl (.tmp 84) rfl k2b (o2 + i * 32) d rfl hrd HDd.out ?_)
            | (refine store_B rfl (.tmp 13) (.tmp 90) rfl w7.heap.size (flb 32 []) z32 rfl rfl 26 hn7 rfl (by simp [flb]) ?_))
        go_roundw
        case rel => exact ⟨j + 1, by omega, by go_num, HB8.out⟩
        case measure => simp [intOf]; omega

      have c1' : (i : Int) < m := by omega
      by_cases c2 : (1099511627776 : Int) < m
      · have C7 := Lib.hid (CNO.out (.inr (.inl c2)))
        clear CNO
        go_wp2_with (refine load_D rfl (.tmp 84) rfl k2b (o2 + i * 32) d rfl hrd HDd.out ?_)
        refine C7.out.mono ?_
        rintro e w7 ⟨rfl, hb7⟩
        have hn7 : RowB (w7.alloc (.cells (U (flb 32 [])).toArray 26)) w7.heap.size 26 (flb 32 []) := heap_alloc_new w7 _
        have HB8 := Lib.hid (below_setRow ((HBR.out.trans (hb7.mono HBR.out.size)).alloc (Nat.le_trans HBR.out.size hb7.size) (.cells (U (flb 32 [])).toArray 26)) (show W4.heap.size ≤ w7.heap.size from Nat.le_trans HBR.out.size hb7.size) (U z32).toArray)
        clear hb7
        go_wp2_with (first
            | (refine load_D rfl (.tmp 84) rfl k2b (o2 + i * 32) d rfl hrd HDd.out ?_)
            | (refine store_B rfl (.tmp 13) (.tmp 90) rfl w7.heap.size (flb 32 []) z32 rfl rfl 26 hn7 rfl (by simp [flb]) ?_))
        go_roundw
        case rel => exact ⟨j + 1, by omega, by go_num, HB8.out⟩
        case measure => simp [intOf]; omega

      obtain ⟨mn, rfl⟩ : ∃ mn : Nat, m = mn := ⟨m.toNat, by omega⟩
      have C5 := Lib.hid (fun ww => lsteps_all F0 i mn ww (by omega) (by omega) hF1)
      have hst := stp_le F0 i mn
      by_cases c3' : P.length = stp F0 i mn
      · have C7 := Lib.hid (Climb_yes F0 d HDd.out i mn P A3 c3 wr (by omega) (by omega) hF1 (KEEP2.out _ HBR.out).1 c3' (KEEP2.out _ HBR.out).2.1)
        rw [← c3'] at C5 hst
        clear CNO c3'
        go_wp2_with fail
        refine (C5.out _).mono ?_
        rintro e w' ⟨rfl, hw'⟩
        rw [hw']
        clear hw' w'
        go_wp2_with (refine load_D rfl (.tmp 84) rfl k2b (o2 + i * 32) d rfl hrd HDd.out ?_)
        refine C7.out.mono ?_
        rintro e w7 ⟨rfl, hb7⟩
        have hn7 : RowB (w7.alloc (.cells (U (flb 32 [])).toArray 26)) w7.heap.size 26 (flb 32 []) := heap_alloc_new w7 _
        have HB8 := Lib.hid (below_setRow ((HBR.out.trans (hb7.mono HBR.out.size)).alloc (Nat.le_trans HBR.out.size hb7.size) (.cells (U (flb 32 [])).toArray 26)) (show W4.heap.size ≤ w7.heap.size from Nat.le_trans HBR.out.size hb7.size) (U (clm F0 d i mn P)).toArray)
        clear hb7
        go_wp2_with (first
            | (refine load_D rfl (.tmp 84) rfl k2b (o2 + i * 32) d rfl hrd HDd.out ?_)
            | (refine store_B rfl (.tmp 13) (.tmp 90) rfl w7.heap.size (flb 32 []) (clm F0 d i mn P) rfl rfl 26 hn7 (clm_len _ _ _ _ _) (by simp [flb]) ?_))
        go_roundw
        case rel => exact ⟨j + 1, by omega, by go_num, HB8.out⟩
        case measure => simp [intOf]; omega

      · have C7 := Lib.hid (CNO.out (.inr (.inr (.inr (.inr ⟨by omega, by simpa using c3'⟩)))))
        clear CNO
        have hne : (stp F0 i mn == P.length) = false := by simpa using Ne.symm c3'
        have hne2 : ¬ stp F0 i mn = P.length := Ne.symm c3'
        have hne3 : ¬ (stp F0 i mn : Int) = P.length := by omega
        generalize stp F0 i mn = st at *
        clear c3'
        go_wp2_with fail
        refine (C5.out _).mono ?_
        rintro e w' ⟨rfl, hw'⟩
        rw [hw']
        clear hw' w'
        go_wp2_with (refine load_D rfl (.tmp 84) rfl k2b (o2 + i * 32) d rfl hrd HDd.out ?_)
        refine C7.out.mono ?_
        rintro e w7 ⟨rfl, hb7⟩
        have hn7 : RowB (w7.alloc (.cells (U (flb 32 [])).toArray 26)) w7.heap.size 26 (flb 32 []) := heap_alloc_new w7 _
        have HB8 := Lib.hid (below_setRow ((HBR.out.trans (hb7.mono HBR.out.size)).alloc (Nat.le_trans HBR.out.size hb7.size) (.cells (U (flb 32 [])).toArray 26)) (show W4.heap.size ≤ w7.heap.size from Nat.le_trans HBR.out.size hb7.size) (U z32).toArray)
        clear hb7
        go_wp2_with (first
            | (refine load_D rfl (.tmp 84) rfl k2b (o2 + i * 32) d rfl hrd HDd.out ?_)
            | (refine store_B rfl (.tmp 13) (.tmp 90) rfl w7.heap.size (flb 32 []) z32 rfl rfl 26 hn7 rfl (by simp [flb]) ?_))
        go_roundw
        case rel => exact ⟨j + 1, by omega, by go_num, HB8.out⟩
        case measure => simp [intOf]; omega

    · have hfin := (KEEP2.out _ HBR.out).2.2.2.1
      go_wp2_with fail
      go_ret
      exact ⟨rfl, hfin⟩
end Go.Proofs.YtgojodldnodjpaaDoor
