/- Keys: the reference's Verify. -/
import Derived.Test.YteicbdjennjcdaaDoorW16
namespace Go.Proofs.YteicbdjennjcdaaDoor
set_option maxRecDepth 100000
open Go.RowKit

theorem rRecover_any (m : List UInt8) (L : List (List UInt8)) (A : Option Addr) (cap : Nat) (w : World) (hm : m.length = 32) (hl : DL w (· < w.heap.size) L A cap) :
    Calls Tryd.prog 47 #[.agg (U m).toArray, .slice A L.length cap] w fun e w' => e = .returned (.tuple #[.agg (U (pubR m L)).toArray, .int .i64 (pubE L)]) ∧ Below w.heap.size w w' := by
  unfold pubR pubE
  by_cases h : L.length = 19
  · rw [if_pos h, if_pos h]
    have := rRecover_yes m L A cap w hm h hl
    rwa [← h] at this
  · rw [if_neg h, if_neg h]
    exact rRecover_no m L.length cap A w h (Nat.le_trans hl.1 hl.2.1)
theorem hok1 {s : Lf} {w W : World} (h : s.ok w (· < w.heap.size)) (hb : Below w.heap.size w W) : s.ok W (· < W.heap.size) := h.keep fun i hi => ⟨Nat.lt_of_lt_of_le hi hb.size, hb.block i hi⟩

set_option maxHeartbeats 3200000 in
theorem rVerify_all (f : Nat) (hf : f = 1099511627776) (r m : List UInt8) (n : Int) (s : Lf) (w : World) (hr32 : r.length = 32) (hm32 : m.length = 32) (hok : s.ok w (· < w.heap.size)) (hP2 : s.P.length ≤ 1099511627776) :
    Calls Tryd.prog 20 #[.agg (U r).toArray, .int .i64 n, .agg (U m).toArray, .agg s.cs] w fun e w' => e = .returned (.int .i64 (verF f r m n s.i s.C s.P)) ∧ Below w.heap.size w w' := by
  have HR := Lib.hid hr32
  have HM := Lib.hid hm32
  have HF := Lib.hid hf
  have HOK := Lib.hid hok
  clear hr32 hm32 hf hok
  go_enter Tryd.func20, Tryd.ntmps20
  go_wp2_with fail
  generalize hW1 : ((w.alloc _).alloc _).alloc _ = W1
  obtain ⟨k1, k2, k3, hb1, hz1⟩ := box3 w (U r).toArray (U m).toArray s.cs 23 23 28 W1 hW1
  have r1 := Lib.hid (show RowB W1 w.heap.size 23 r from k1)
  have r2 : RowB W1 (w.heap.size + 1) 23 m := k2
  have r3 : BxL W1 (w.heap.size + 2) s := k3
  have R3 := Lib.hid r3
  have c0 := r3.c0
  have c1 := r3.c1
  have HB1 := Lib.hid hb1
  have hsz1 : w.heap.size + 3 ≤ W1.heap.size := by omega
  have HOK1 := Lib.hid (hok1 HOK.out hb1)
  clear k1 k2 k3 hb1 hz1 hW1 r3
  refine (rsize_all n W1).mono ?_
  rintro e w2 ⟨rfl, hw2⟩
  rw [hw2]
  clear hw2 w2
  by_cases h1 : 1 ≤ n ∧ n ≤ 256
  case neg =>
    rw [decide_eq_false h1]
    have HV := Lib.hid (show verF f r m n s.i s.C s.P = 60 from if_neg fun h => h1 h.1)
    clear h1
    go_wp2_with fail
    go_ret
    exact ⟨by rw [HV.out]; rfl, HB1.out⟩
  rw [decide_eq_true h1]
  have H1 := Lib.hid h1
  clear h1
  by_cases h2 : s.i < 0
  · have HV := Lib.hid (show verF f r m n s.i s.C s.P = 60 from if_neg fun h => by have := h.2.1.1; omega)
    go_wp2_with fail
    go_ret
    exact ⟨by rw [HV.out]; rfl, HB1.out⟩
  by_cases h3 : n ≤ s.i
  · have HV := Lib.hid (show verF f r m n s.i s.C s.P = 60 from if_neg fun h => by have := h.2.1.2; omega)
    go_wp2_with fail
    go_ret
    exact ⟨by rw [HV.out]; rfl, HB1.out⟩
  have C := Lib.hid (rRecover_any m s.C s.cA s.cc W1 HM.out HOK1.out.1)
  go_wp2_with (refine load_B rfl (.tmp 6) rfl (w.heap.size + 1) rfl 23 m r2 HM.out ?_)
  refine C.out.mono ?_
  rintro e w2 ⟨rfl, hb2⟩
  have hz2 := hb2.size
  have n2 : RowB (w2.alloc (.cells (U (flb 32 [])).toArray 23)) w2.heap.size 23 (flb 32 []) := heap_alloc_new w2 _
  have HG := Lib.hid (show ∀ W5, (w2.alloc (.cells (U (flb 32 [])).toArray 23)).setRow w2.heap.size (U (pubR m s.C)).toArray = W5 → RowB W5 w2.heap.size 23 (pubR m s.C) ∧ Below W1.heap.size W1 W5 ∧ w2.heap.size + 1 = W5.heap.size from fun W5 h => by
    subst h
    exact ⟨n2.setRow (pubR m s.C), hb2.trans ((below_setRow ((Below.refl _ _).alloc (Nat.le_refl _) _) (Nat.le_refl _) _ : Below w2.heap.size w2 _).mono hz2), by simp⟩)
  have HL := Lib.hid (pubR_len m s.C)
  have HE : Hid (pubE s.C = 0 ↔ s.C.length = 19) := Lib.hid (by unfold pubE; by_cases h : s.C.length = 19 <;> simp [h])
  have HE2 : Hid (s.C.length = 19 → recF m s.C = pubR m s.C) := Lib.hid fun h => by rw [pubR, if_pos h]
  clear C hb2 r2 c0 c1
  generalize pubE s.C = E at HE ⊢
  by_cases hE : E = 0
  case neg =>
    have HV := Lib.hid (show verF f r m n s.i s.C s.P = 60 from if_neg fun h => hE (HE.out.2 h.2.2.1))
    go_wp2_with (refine store_B rfl (.tmp 9) (.tmp 32) rfl w2.heap.size (flb 32 []) (pubR m s.C) rfl rfl 23 n2 HL.out (by simp [flb]) ?_; generalize hW5 : (w2.alloc _).setRow _ _ = W5; obtain ⟨r5, hb5, hz5⟩ := HG.out W5 hW5; have HB5 := Lib.hid (HB1.out.trans (hb5.mono (by omega))); clear hW5 n2 HG hz5 hb5 r5)
    go_ret
    exact ⟨by rw [HV.out]; rfl, HB5.out⟩
  have hC := HE.out.1 hE
  have HV := Lib.hid (show verF f r m n s.i s.C s.P = if cre f s.i n s.P = 0 ∧ crd f (pubR m s.C) s.i n s.P = r then 0 else 60 from by
    unfold verF
    by_cases h : cre f s.i n s.P = 0 ∧ crd f (pubR m s.C) s.i n s.P = r
    · rw [if_pos h, if_pos ⟨H1.out, ⟨by omega, by omega⟩, hC, h.1, by rw [HE2.out hC]; exact h.2⟩]
    · rw [if_neg h, if_neg fun k => h ⟨k.2.2.2.1, by rw [← HE2.out hC]; exact k.2.2.2.2⟩])
  subst hE
  clear hC HE HE2
  go_upto_region 6 with (refine store_B rfl (.tmp 9) (.tmp 32) rfl w2.heap.size (flb 32 []) (pubR m s.C) rfl rfl 23 n2 HL.out (by simp [flb]) ?_)
  generalize hW5 : (w2.alloc _).setRow _ _ = W5
  obtain ⟨r5, hb5, hz5⟩ := HG.out W5 hW5
  clear hW5 n2 HG
  have hz5' : W1.heap.size ≤ W5.heap.size := by omega
  have l5 := R3.out.keep (hb5.block _ (by omega))
  have c0 := l5.c0
  have c2 := l5.c2
  have RR5 := Lib.hid (r1.out.keep (hb5.block _ (by omega)))
  have HB5 := Lib.hid (HB1.out.trans (hb5.mono (by omega)))
  have C := Lib.hid (rClimb_any f (pubR m s.C) HL.out s.i n s.P s.pA s.pc W5 (by rw [HF.out]; omega) (by rw [HF.out]; omega) (HOK1.out.2.keep fun i hi => ⟨by omega, hb5.block i hi⟩) hP2)
  clear hb5 hz5 l5
  have HCL := Lib.hid (crd_len f (pubR m s.C) s.i n s.P)
  have q1 := eq_dig (crd f (pubR m s.C) s.i n s.P) r (crd_len f (pubR m s.C) s.i n s.P) HR.out
  have hltr : w.heap.size < W5.heap.size := by omega
  go_wp2_with (refine load_B rfl (.tmp 9) rfl w2.heap.size rfl 23 (pubR m s.C) r5 HL.out ?_)
  refine C.out.mono ?_
  rintro e w6 ⟨rfl, hb6⟩
  have hz6 := hb6.size
  clear C
  generalize crd f (pubR m s.C) s.i n s.P = D at *
  generalize cre f s.i n s.P = X at *
  have n6 : RowB (w6.alloc (.cells (U (flb 32 [])).toArray 23)) w6.heap.size 23 (flb 32 []) := heap_alloc_new w6 _
  have hb7 : Below w6.heap.size w6 ((w6.alloc (.cells (U (flb 32 [])).toArray 23)).setRow w6.heap.size (U D).toArray) := below_setRow ((Below.refl _ _).alloc (Nat.le_refl _) _) (Nat.le_refl _) _
  have n7 := n6.setRow D
  have r7 := RR5.out.keep ((hb7.block _ (by omega)).trans (hb6.block _ hltr))
  have HB7 := Lib.hid (HB5.out.trans ((hb6.trans (hb7.mono hz6)).mono (by omega)))
  clear hb6 hb7 c0 c2 r5
  by_cases hX : X = 0
  · subst hX
    by_cases hD : D = r
    · rw [decide_eq_true hD] at q1
      have HD := Lib.hid hD
      clear hD
      go_wp2_with (first
        | (refine store_B rfl (.tmp 11) (.tmp 44) rfl w6.heap.size (flb 32 []) D rfl rfl 23 n6 HCL.out (by simp [flb]) ?_)
        | (refine load_Bw (by kernel_rfl) (.tmp 11) rfl w6.heap.size rfl 23 D n7 HCL.out ?_)
        | (refine load_Bw (by kernel_rfl) (.tmp 4) rfl w.heap.size rfl 23 r r7 HR.out ?_))
      go_ret
      exact ⟨by rw [HV.out, if_pos ⟨trivial, HD.out⟩]; rfl, HB7.out⟩
    · rw [decide_eq_false hD] at q1
      go_wp2_with (first
        | (refine store_B rfl (.tmp 11) (.tmp 44) rfl w6.heap.size (flb 32 []) D rfl rfl 23 n6 HCL.out (by simp [flb]) ?_)
        | (refine load_Bw (by kernel_rfl) (.tmp 11) rfl w6.heap.size rfl 23 D n7 HCL.out ?_)
        | (refine load_Bw (by kernel_rfl) (.tmp 4) rfl w.heap.size rfl 23 r r7 HR.out ?_))
      go_ret
      exact ⟨by rw [HV.out, if_neg fun h => hD h.2]; rfl, HB7.out⟩
  · go_wp2_with (first
      | (refine store_B rfl (.tmp 11) (.tmp 44) rfl w6.heap.size (flb 32 []) D rfl rfl 23 n6 HCL.out (by simp [flb]) ?_))
    go_ret
    exact ⟨by rw [HV.out, if_neg fun h => hX h.1]; rfl, HB7.out⟩
end Go.Proofs.YteicbdjennjcdaaDoor
