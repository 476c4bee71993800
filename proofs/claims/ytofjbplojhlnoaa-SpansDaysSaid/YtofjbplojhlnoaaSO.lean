/- Spans: sane. -/
import Derived.Test.YtofjbplojhlnoaaSN
namespace Go.Proofs.Ytofjbplojhlnoaa
open Go.RowKit

theorem SL.up {w w' : World} {L : List Sp} {A : Option Addr} {c : Nat} (h : SL w (· < w.heap.size) L A c) (hb : Below w.heap.size w w') : SL w' (· < w'.heap.size) L A c :=
  h.keep fun i hi => ⟨by have := hb.size; omega, hb.block i hi⟩
theorem SL.top {w : World} {P : Nat → Prop} {L : List Sp} {A : Option Addr} {c : Nat} (h : SL w (fun i => P i ∧ i < w.heap.size) L A c) : SL w (· < w.heap.size) L A c := h.keep fun _ hi => ⟨hi.2, rfl⟩
theorem list2 (a b : Int) (w : World) : Calls Try.prog 24 #[.slice (some ⟨w.heap.size, 0, none⟩) 2 2] (w.alloc (.cells #[.int .i64 a, .int .i64 b] 3)) fun e w' => ∃ A c, e = .returned (.slice A 1 c) ∧ SL w' (· < w'.heap.size) [(a, b)] A c ∧ Below w.heap.size w w' := by
  have hb : Below w.heap.size w (w.alloc (.cells #[.int .i64 a, .int .i64 b] 3)) := (Below.refl _ _).alloc (Nat.le_refl _) _
  refine (list_all 1 [a, b] rfl (by omega) w.heap.size (w.alloc (.cells #[.int .i64 a, .int .i64 b] 3)) (heap_alloc_new w _)).mono ?_
  rintro e w' ⟨A, c, rfl, hs, hb2⟩
  exact ⟨A, c, rfl, hs.top, hb.trans (hb2.mono hb.size)⟩
theorem list4 (a b x y : Int) (w : World) : Calls Try.prog 24 #[.slice (some ⟨w.heap.size, 0, none⟩) 4 4] (w.alloc (.cells #[.int .i64 a, .int .i64 b, .int .i64 x, .int .i64 y] 3)) fun e w' => ∃ A c, e = .returned (.slice A 2 c) ∧ SL w' (· < w'.heap.size) [(a, b), (x, y)] A c ∧ Below w.heap.size w w' := by
  have hb : Below w.heap.size w (w.alloc (.cells #[.int .i64 a, .int .i64 b, .int .i64 x, .int .i64 y] 3)) := (Below.refl _ _).alloc (Nat.le_refl _) _
  refine (list_all 2 [a, b, x, y] rfl (by omega) w.heap.size (w.alloc (.cells #[.int .i64 a, .int .i64 b, .int .i64 x, .int .i64 y] 3)) (heap_alloc_new w _)).mono ?_
  rintro e w' ⟨A, c, rfl, hs, hb2⟩
  exact ⟨A, c, rfl, hs.top, hb.trans (hb2.mono hb.size)⟩
theorem v1 : nm [(10, 20), (15, 30)] = [(10, 30)] := by decide +kernel
theorem v2 : nm [(-5, 2000)] = [(0, 1024)] := by decide +kernel
theorem v3 : nm [(5, 5)] = [] := by decide +kernel
theorem v4 : rn 0 (zw (fun x y => x && !y) [(0, 1024)] [(0, 10)]) = [(10, 1024)] := by decide +kernel
theorem v5 : rn 0 (zw (fun x y => x || y) [(3, 4)] [(4, 5)]) = [(3, 5)] := by decide +kernel
theorem v6 : rn 0 (zw (fun x y => x && y) [(3, 9)] [(5, 12)]) = [(5, 9)] := by decide +kernel
theorem v7 : cov [(0, 10), (10, 20)] (5, 15) = true := by decide +kernel
theorem v8 : cov [] (7, 7) = true := by decide +kernel
theorem v9 : cov [(0, 1024)] (1023, 1025) = false := by decide +kernel
theorem v10 : has [(0, 1024)] 1023 = true := by decide +kernel
theorem v11 : has [(0, 1024)] 1024 = false := by decide +kernel
theorem v12 : chk [(0, 0)] = 30 := by decide +kernel
theorem v13 : chk [(0, 1024)] = 0 := by decide +kernel

set_option maxRecDepth 100000 in
set_option maxHeartbeats 8000000 in
theorem sane_all (w : World) : Calls Try.prog 9 #[] w fun e w' => e = .returned (.bool true) ∧ Below w.heap.size w w' := by
  have W0 := Lib.hid (Below.refl w.heap.size w)
  go_enter Try.func9, Try.ntmps9
  go_wp2_with fail
  have CC := list2 (0) (1024) w
  refine CC.mono ?_
  clear CC
  rintro e w1 ⟨A_all, c_all, rfl, hs, hb⟩
  have W1 := Lib.hid (W0.out.trans (hb.mono W0.out.size))
  have S_all := Lib.hid hs
  clear hs
  clear hb W0
  go_wp2_with fail
  have CC := list4 (10) (20) (15) (30) w1
  refine CC.mono ?_
  clear CC
  rintro e w2 ⟨A_a, c_a, rfl, hs, hb⟩
  have W2 := Lib.hid (W1.out.trans (hb.mono W1.out.size))
  have T_all := Lib.hid (S_all.out.up hb)
  clear S_all
  have S_all := T_all
  clear T_all
  have S_a := Lib.hid hs
  clear hs
  clear hb W1
  go_wp2_with fail
  have CC := (show Calls Try.prog 14 #[.slice A_a 2 c_a] w2 fun e w' => ∃ A c, e = .returned (.slice A 1 c) ∧ SL w' (· < w'.heap.size) [(10, 30)] A c ∧ Below w2.heap.size w2 w' from by have C := normal_all [(10, 20), (15, 30)] A_a c_a w2 (by decide) S_a.out; rw [v1] at C; exact C.mono fun e w' ⟨A, c, he, hs, hb⟩ => ⟨A, c, he, hs.top, hb⟩)
  refine CC.mono ?_
  clear CC
  rintro e w3 ⟨A_x, c_x, rfl, hs, hb⟩
  have W3 := Lib.hid (W2.out.trans (hb.mono W2.out.size))
  have T_all := Lib.hid (S_all.out.up hb)
  clear S_all
  have S_all := T_all
  clear T_all
  have S_x := Lib.hid hs
  clear hs
  clear hb W2
  go_wp2_with fail
  have CC := list2 (10) (30) w3
  refine CC.mono ?_
  clear CC
  rintro e w4 ⟨A_y, c_y, rfl, hs, hb⟩
  have W4 := Lib.hid (W3.out.trans (hb.mono W3.out.size))
  have T_all := Lib.hid (S_all.out.up hb)
  clear S_all
  have S_all := T_all
  clear T_all
  have T_x := Lib.hid (S_x.out.up hb)
  clear S_x
  have S_x := T_x
  clear T_x
  have S_y := Lib.hid hs
  clear hs
  clear hb W3
  go_wp2_with fail
  have CC := (show Calls Try.prog 13 #[.slice A_x 1 c_x, .slice A_y 1 c_y] w4 fun e w' => e = .returned (.bool true) ∧ Below w4.heap.size w4 w' from same_all [(10, 30)] A_x A_y c_x c_y w4 S_x.out S_y.out)
  refine CC.mono ?_
  clear CC
  rintro e w5 ⟨rfl, hb⟩
  have W5 := Lib.hid (W4.out.trans (hb.mono W4.out.size))
  have T_all := Lib.hid (S_all.out.up hb)
  clear S_all
  have S_all := T_all
  clear T_all
  clear hb W4
  go_wp2_with fail
  have CC := list2 (-5) (2000) w5
  refine CC.mono ?_
  clear CC
  rintro e w6 ⟨A_b, c_b, rfl, hs, hb⟩
  have W6 := Lib.hid (W5.out.trans (hb.mono W5.out.size))
  have T_all := Lib.hid (S_all.out.up hb)
  clear S_all
  have S_all := T_all
  clear T_all
  have S_b := Lib.hid hs
  clear hs
  clear hb W5
  go_wp2_with fail
  have CC := (show Calls Try.prog 14 #[.slice A_b 1 c_b] w6 fun e w' => ∃ A c, e = .returned (.slice A 1 c) ∧ SL w' (· < w'.heap.size) [(0, 1024)] A c ∧ Below w6.heap.size w6 w' from by have C := normal_all [(-5, 2000)] A_b c_b w6 (by decide) S_b.out; rw [v2] at C; exact C.mono fun e w' ⟨A, c, he, hs, hb⟩ => ⟨A, c, he, hs.top, hb⟩)
  refine CC.mono ?_
  clear CC
  rintro e w7 ⟨A_x2, c_x2, rfl, hs, hb⟩
  have W7 := Lib.hid (W6.out.trans (hb.mono W6.out.size))
  have T_all := Lib.hid (S_all.out.up hb)
  clear S_all
  have S_all := T_all
  clear T_all
  have S_x2 := Lib.hid hs
  clear hs
  clear hb W6
  go_wp2_with fail
  have CC := (show Calls Try.prog 13 #[.slice A_x2 1 c_x2, .slice A_all 1 c_all] w7 fun e w' => e = .returned (.bool true) ∧ Below w7.heap.size w7 w' from same_all [(0, 1024)] A_x2 A_all c_x2 c_all w7 S_x2.out S_all.out)
  refine CC.mono ?_
  clear CC
  rintro e w8 ⟨rfl, hb⟩
  have W8 := Lib.hid (W7.out.trans (hb.mono W7.out.size))
  have T_all := Lib.hid (S_all.out.up hb)
  clear S_all
  have S_all := T_all
  clear T_all
  clear hb W7
  go_wp2_with fail
  have CC := list2 (5) (5) w8
  refine CC.mono ?_
  clear CC
  rintro e w9 ⟨A_d, c_d, rfl, hs, hb⟩
  have W9 := Lib.hid (W8.out.trans (hb.mono W8.out.size))
  have T_all := Lib.hid (S_all.out.up hb)
  clear S_all
  have S_all := T_all
  clear T_all
  have S_d := Lib.hid hs
  clear hs
  clear hb W8
  go_wp2_with fail
  have CC := (show Calls Try.prog 14 #[.slice A_d 1 c_d] w9 fun e w' => ∃ A c, e = .returned (.slice A 0 c) ∧ SL w' (· < w'.heap.size) [] A c ∧ Below w9.heap.size w9 w' from by have C := normal_all [(5, 5)] A_d c_d w9 (by decide) S_d.out; rw [v3] at C; exact C.mono fun e w' ⟨A, c, he, hs, hb⟩ => ⟨A, c, he, hs.top, hb⟩)
  refine CC.mono ?_
  clear CC
  rintro e w10 ⟨A_x3, c_x3, rfl, hs, hb⟩
  have W10 := Lib.hid (W9.out.trans (hb.mono W9.out.size))
  have T_all := Lib.hid (S_all.out.up hb)
  clear S_all
  have S_all := T_all
  clear T_all
  have S_x3 := Lib.hid hs
  clear hs
  clear hb W9
  go_wp2_with fail
  have CC := list2 (0) (10) w10
  refine CC.mono ?_
  clear CC
  rintro e w11 ⟨A_f, c_f, rfl, hs, hb⟩
  have W11 := Lib.hid (W10.out.trans (hb.mono W10.out.size))
  have T_all := Lib.hid (S_all.out.up hb)
  clear S_all
  have S_all := T_all
  clear T_all
  have S_f := Lib.hid hs
  clear hs
  clear hb W10
  go_wp2_with fail
  have CC := (show Calls Try.prog 20 #[.slice A_all 1 c_all, .slice A_f 1 c_f] w11 fun e w' => ∃ A c, e = .returned (.slice A 1 c) ∧ SL w' (· < w'.heap.size) [(10, 1024)] A c ∧ Below w11.heap.size w11 w' from by have C := minus_all [(0, 1024)] [(0, 10)] A_all A_f c_all c_f w11 (by decide) (by decide) S_all.out S_f.out; rw [v4] at C; exact C.mono fun e w' ⟨A, c, he, hs, hb⟩ => ⟨A, c, he, hs.top, hb⟩)
  refine CC.mono ?_
  clear CC
  rintro e w12 ⟨A_x4, c_x4, rfl, hs, hb⟩
  have W12 := Lib.hid (W11.out.trans (hb.mono W11.out.size))
  have T_all := Lib.hid (S_all.out.up hb)
  clear S_all
  have S_all := T_all
  clear T_all
  have S_x4 := Lib.hid hs
  clear hs
  clear hb W11
  go_wp2_with fail
  have CC := list2 (10) (1024) w12
  refine CC.mono ?_
  clear CC
  rintro e w13 ⟨A_y4, c_y4, rfl, hs, hb⟩
  have W13 := Lib.hid (W12.out.trans (hb.mono W12.out.size))
  have T_all := Lib.hid (S_all.out.up hb)
  clear S_all
  have S_all := T_all
  clear T_all
  have T_x4 := Lib.hid (S_x4.out.up hb)
  clear S_x4
  have S_x4 := T_x4
  clear T_x4
  have S_y4 := Lib.hid hs
  clear hs
  clear hb W12
  go_wp2_with fail
  have CC := (show Calls Try.prog 13 #[.slice A_x4 1 c_x4, .slice A_y4 1 c_y4] w13 fun e w' => e = .returned (.bool true) ∧ Below w13.heap.size w13 w' from same_all [(10, 1024)] A_x4 A_y4 c_x4 c_y4 w13 S_x4.out S_y4.out)
  refine CC.mono ?_
  clear CC
  rintro e w14 ⟨rfl, hb⟩
  have W14 := Lib.hid (W13.out.trans (hb.mono W13.out.size))
  have T_all := Lib.hid (S_all.out.up hb)
  clear S_all
  have S_all := T_all
  clear T_all
  clear hb W13
  go_wp2_with fail
  have CC := list2 (3) (4) w14
  refine CC.mono ?_
  clear CC
  rintro e w15 ⟨A_g, c_g, rfl, hs, hb⟩
  have W15 := Lib.hid (W14.out.trans (hb.mono W14.out.size))
  have T_all := Lib.hid (S_all.out.up hb)
  clear S_all
  have S_all := T_all
  clear T_all
  have S_g := Lib.hid hs
  clear hs
  clear hb W14
  go_wp2_with fail
  have CC := list2 (4) (5) w15
  refine CC.mono ?_
  clear CC
  rintro e w16 ⟨A_h, c_h, rfl, hs, hb⟩
  have W16 := Lib.hid (W15.out.trans (hb.mono W15.out.size))
  have T_all := Lib.hid (S_all.out.up hb)
  clear S_all
  have S_all := T_all
  clear T_all
  have T_g := Lib.hid (S_g.out.up hb)
  clear S_g
  have S_g := T_g
  clear T_g
  have S_h := Lib.hid hs
  clear hs
  clear hb W15
  go_wp2_with fail
  have CC := (show Calls Try.prog 16 #[.slice A_g 1 c_g, .slice A_h 1 c_h] w16 fun e w' => ∃ A c, e = .returned (.slice A 1 c) ∧ SL w' (· < w'.heap.size) [(3, 5)] A c ∧ Below w16.heap.size w16 w' from by have C := union_all [(3, 4)] [(4, 5)] A_g A_h c_g c_h w16 (by decide) (by decide) S_g.out S_h.out; rw [v5] at C; exact C.mono fun e w' ⟨A, c, he, hs, hb⟩ => ⟨A, c, he, hs.top, hb⟩)
  refine CC.mono ?_
  clear CC
  rintro e w17 ⟨A_x5, c_x5, rfl, hs, hb⟩
  have W17 := Lib.hid (W16.out.trans (hb.mono W16.out.size))
  have T_all := Lib.hid (S_all.out.up hb)
  clear S_all
  have S_all := T_all
  clear T_all
  have S_x5 := Lib.hid hs
  clear hs
  clear hb W16
  go_wp2_with fail
  have CC := list2 (3) (5) w17
  refine CC.mono ?_
  clear CC
  rintro e w18 ⟨A_y5, c_y5, rfl, hs, hb⟩
  have W18 := Lib.hid (W17.out.trans (hb.mono W17.out.size))
  have T_all := Lib.hid (S_all.out.up hb)
  clear S_all
  have S_all := T_all
  clear T_all
  have T_x5 := Lib.hid (S_x5.out.up hb)
  clear S_x5
  have S_x5 := T_x5
  clear T_x5
  have S_y5 := Lib.hid hs
  clear hs
  clear hb W17
  go_wp2_with fail
  have CC := (show Calls Try.prog 13 #[.slice A_x5 1 c_x5, .slice A_y5 1 c_y5] w18 fun e w' => e = .returned (.bool true) ∧ Below w18.heap.size w18 w' from same_all [(3, 5)] A_x5 A_y5 c_x5 c_y5 w18 S_x5.out S_y5.out)
  refine CC.mono ?_
  clear CC
  rintro e w19 ⟨rfl, hb⟩
  have W19 := Lib.hid (W18.out.trans (hb.mono W18.out.size))
  have T_all := Lib.hid (S_all.out.up hb)
  clear S_all
  have S_all := T_all
  clear T_all
  clear hb W18
  go_wp2_with fail
  have CC := list2 (3) (9) w19
  refine CC.mono ?_
  clear CC
  rintro e w20 ⟨A_k, c_k, rfl, hs, hb⟩
  have W20 := Lib.hid (W19.out.trans (hb.mono W19.out.size))
  have T_all := Lib.hid (S_all.out.up hb)
  clear S_all
  have S_all := T_all
  clear T_all
  have S_k := Lib.hid hs
  clear hs
  clear hb W19
  go_wp2_with fail
  have CC := list2 (5) (12) w20
  refine CC.mono ?_
  clear CC
  rintro e w21 ⟨A_m, c_m, rfl, hs, hb⟩
  have W21 := Lib.hid (W20.out.trans (hb.mono W20.out.size))
  have T_all := Lib.hid (S_all.out.up hb)
  clear S_all
  have S_all := T_all
  clear T_all
  have T_k := Lib.hid (S_k.out.up hb)
  clear S_k
  have S_k := T_k
  clear T_k
  have S_m := Lib.hid hs
  clear hs
  clear hb W20
  go_wp2_with fail
  have CC := (show Calls Try.prog 18 #[.slice A_k 1 c_k, .slice A_m 1 c_m] w21 fun e w' => ∃ A c, e = .returned (.slice A 1 c) ∧ SL w' (· < w'.heap.size) [(5, 9)] A c ∧ Below w21.heap.size w21 w' from by have C := meet_all [(3, 9)] [(5, 12)] A_k A_m c_k c_m w21 (by decide) (by decide) S_k.out S_m.out; rw [v6] at C; exact C.mono fun e w' ⟨A, c, he, hs, hb⟩ => ⟨A, c, he, hs.top, hb⟩)
  refine CC.mono ?_
  clear CC
  rintro e w22 ⟨A_x6, c_x6, rfl, hs, hb⟩
  have W22 := Lib.hid (W21.out.trans (hb.mono W21.out.size))
  have T_all := Lib.hid (S_all.out.up hb)
  clear S_all
  have S_all := T_all
  clear T_all
  have S_x6 := Lib.hid hs
  clear hs
  clear hb W21
  go_wp2_with fail
  have CC := list2 (5) (9) w22
  refine CC.mono ?_
  clear CC
  rintro e w23 ⟨A_y6, c_y6, rfl, hs, hb⟩
  have W23 := Lib.hid (W22.out.trans (hb.mono W22.out.size))
  have T_all := Lib.hid (S_all.out.up hb)
  clear S_all
  have S_all := T_all
  clear T_all
  have T_x6 := Lib.hid (S_x6.out.up hb)
  clear S_x6
  have S_x6 := T_x6
  clear T_x6
  have S_y6 := Lib.hid hs
  clear hs
  clear hb W22
  go_wp2_with fail
  have CC := (show Calls Try.prog 13 #[.slice A_x6 1 c_x6, .slice A_y6 1 c_y6] w23 fun e w' => e = .returned (.bool true) ∧ Below w23.heap.size w23 w' from same_all [(5, 9)] A_x6 A_y6 c_x6 c_y6 w23 S_x6.out S_y6.out)
  refine CC.mono ?_
  clear CC
  rintro e w24 ⟨rfl, hb⟩
  have W24 := Lib.hid (W23.out.trans (hb.mono W23.out.size))
  have T_all := Lib.hid (S_all.out.up hb)
  clear S_all
  have S_all := T_all
  clear T_all
  clear hb W23
  go_wp2_with fail
  have CC := list4 (0) (10) (10) (20) w24
  refine CC.mono ?_
  clear CC
  rintro e w25 ⟨A_p, c_p, rfl, hs, hb⟩
  have W25 := Lib.hid (W24.out.trans (hb.mono W24.out.size))
  have T_all := Lib.hid (S_all.out.up hb)
  clear S_all
  have S_all := T_all
  clear T_all
  have S_p := Lib.hid hs
  clear hs
  clear hb W24
  go_wp2_with fail
  have CC := (show Calls Try.prog 23 #[.slice A_p 2 c_p, .agg #[.int .i64 5, .int .i64 15]] w25 fun e w' => e = .returned (.bool true) ∧ Below w25.heap.size w25 w' from by have C := covers_all [(0, 10), (10, 20)] A_p c_p (5) (15) w25 (by decide) S_p.out; rw [v7] at C; exact C)
  refine CC.mono ?_
  clear CC
  rintro e w26 ⟨rfl, hb⟩
  have W26 := Lib.hid (W25.out.trans (hb.mono W25.out.size))
  have T_all := Lib.hid (S_all.out.up hb)
  clear S_all
  have S_all := T_all
  clear T_all
  clear hb W25
  go_wp2_with fail
  have CC := (show Calls Try.prog 23 #[.slice none 0 0, .agg #[.int .i64 7, .int .i64 7]] w26 fun e w' => e = .returned (.bool true) ∧ Below w26.heap.size w26 w' from by have C := covers_all [] none 0 (7) (7) w26 (by decide) (sl_nil _ _); rw [v8] at C; exact C)
  refine CC.mono ?_
  clear CC
  rintro e w27 ⟨rfl, hb⟩
  have W27 := Lib.hid (W26.out.trans (hb.mono W26.out.size))
  have T_all := Lib.hid (S_all.out.up hb)
  clear S_all
  have S_all := T_all
  clear T_all
  clear hb W26
  go_wp2_with fail
  have CC := (show Calls Try.prog 23 #[.slice A_all 1 c_all, .agg #[.int .i64 1023, .int .i64 1025]] w27 fun e w' => e = .returned (.bool false) ∧ Below w27.heap.size w27 w' from by have C := covers_all [(0, 1024)] A_all c_all (1023) (1025) w27 (by decide) S_all.out; rw [v9] at C; exact C)
  refine CC.mono ?_
  clear CC
  rintro e w28 ⟨rfl, hb⟩
  have W28 := Lib.hid (W27.out.trans (hb.mono W27.out.size))
  have T_all := Lib.hid (S_all.out.up hb)
  clear S_all
  have S_all := T_all
  clear T_all
  clear hb W27
  go_wp2_with fail
  have CC := (show Calls Try.prog 22 #[.slice A_all 1 c_all, .int .i64 1023] w28 fun e w' => e = .returned (.bool true) ∧ Below w28.heap.size w28 w' from by have C := has_all [(0, 1024)] A_all c_all 1023 w28 S_all.out; rw [v10] at C; exact C)
  refine CC.mono ?_
  clear CC
  rintro e w29 ⟨rfl, hb⟩
  have W29 := Lib.hid (W28.out.trans (hb.mono W28.out.size))
  have T_all := Lib.hid (S_all.out.up hb)
  clear S_all
  have S_all := T_all
  clear T_all
  clear hb W28
  go_wp2_with fail
  have CC := (show Calls Try.prog 22 #[.slice A_all 1 c_all, .int .i64 1024] w29 fun e w' => e = .returned (.bool false) ∧ Below w29.heap.size w29 w' from by have C := has_all [(0, 1024)] A_all c_all 1024 w29 S_all.out; rw [v11] at C; exact C)
  refine CC.mono ?_
  clear CC
  rintro e w30 ⟨rfl, hb⟩
  have W30 := Lib.hid (W29.out.trans (hb.mono W29.out.size))
  have T_all := Lib.hid (S_all.out.up hb)
  clear S_all
  have S_all := T_all
  clear T_all
  clear hb W29
  go_wp2_with fail
  have CC := list2 (0) (0) w30
  refine CC.mono ?_
  clear CC
  rintro e w31 ⟨A_q, c_q, rfl, hs, hb⟩
  have W31 := Lib.hid (W30.out.trans (hb.mono W30.out.size))
  have T_all := Lib.hid (S_all.out.up hb)
  clear S_all
  have S_all := T_all
  clear T_all
  have S_q := Lib.hid hs
  clear hs
  clear hb W30
  go_wp2_with fail
  have CC := (show Calls Try.prog 11 #[.slice A_q 1 c_q] w31 fun e w' => e = .returned (.int .i64 30) ∧ Below w31.heap.size w31 w' from by have C := check_all [(0, 0)] A_q c_q w31 S_q.out; rw [v12] at C; exact C)
  refine CC.mono ?_
  clear CC
  rintro e w32 ⟨rfl, hb⟩
  have W32 := Lib.hid (W31.out.trans (hb.mono W31.out.size))
  have T_all := Lib.hid (S_all.out.up hb)
  clear S_all
  have S_all := T_all
  clear T_all
  clear hb W31
  go_wp2_with fail
  have CC := (show Calls Try.prog 11 #[.slice A_all 1 c_all] w32 fun e w' => e = .returned (.int .i64 0) ∧ Below w32.heap.size w32 w' from by have C := check_all [(0, 1024)] A_all c_all w32 S_all.out; rw [v13] at C; exact C)
  refine CC.mono ?_
  clear CC
  rintro e w33 ⟨rfl, hb⟩
  have W33 := Lib.hid (W32.out.trans (hb.mono W32.out.size))
  clear hb W32
  go_wp2_with fail
  go_ret
  exact ⟨rfl, W33.out⟩
end Go.Proofs.Ytofjbplojhlnoaa
