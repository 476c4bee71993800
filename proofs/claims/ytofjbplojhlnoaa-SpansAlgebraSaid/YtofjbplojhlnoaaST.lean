/- Proved: for every three slices of spans that can be read as data, in whatever memory and on every schedule, SpansAlgebra returns true and its arguments read afterwards as before; there is no further condition. -/
import Derived.Test.YtofjbplojhlnoaaSP
namespace Go.Proofs.Ytofjbplojhlnoaa
open Go.ChangeShapes Go.WideShapes Go.ChangeAt Go.RowKit

set_option maxRecDepth 100000 in
set_option maxHeartbeats 8000000 in
theorem algebra_all (a : List Sp) (b : List Sp) (k : List Sp) (A_a : Option Addr) (c_a : Nat) (A_b : Option Addr) (c_b : Nat) (A_k : Option Addr) (c_k : Nat) (w : World) (sa : SL w (· < w.heap.size) a A_a c_a) (sb : SL w (· < w.heap.size) b A_b c_b) (sk : SL w (· < w.heap.size) k A_k c_k) :
    Calls Try.prog 6 #[.slice A_a a.length c_a, .slice A_b b.length c_b, .slice A_k k.length c_k] w fun e w' => e = .returned (.bool true) ∧ Below w.heap.size w w' := by
  have S_a := Lib.hid sa
  have S_b := Lib.hid sb
  have S_k := Lib.hid sk
  clear sa sb sk
  have W0 := Lib.hid (Below.refl w.heap.size w)
  go_enter Try.func6, Try.ntmps6
  go_wp2_with fail
  have CC := sane_all w
  refine CC.mono ?_
  clear CC
  rintro e w1 ⟨rfl, hb⟩
  have W1 := Lib.hid (W0.out.trans (hb.mono W0.out.size))
  have T_a := Lib.hid (S_a.out.up hb)
  clear S_a
  have S_a := T_a
  clear T_a
  have T_b := Lib.hid (S_b.out.up hb)
  clear S_b
  have S_b := T_b
  clear T_b
  have T_k := Lib.hid (S_k.out.up hb)
  clear S_k
  have S_k := T_k
  clear T_k
  clear hb W0
  by_cases ha' : a.length ≤ 40
  case neg =>
    go_wp2_with fail
    refine (few_no a A_a c_a ha' _).mono ?_
    rintro e w' ⟨rfl, hw'⟩
    rw [hw']
    clear hw' w'
    go_wp2_with fail
    go_ret
    exact ⟨rfl, W1.out⟩
  by_cases hb' : b.length ≤ 40
  case neg =>
    go_wp2_with fail
    refine (few_yes a A_a c_a ha' _).mono ?_
    rintro e w' ⟨rfl, hw'⟩
    rw [hw']
    clear hw' w'
    go_wp2_with fail
    refine (few_no b A_b c_b hb' _).mono ?_
    rintro e w' ⟨rfl, hw'⟩
    rw [hw']
    clear hw' w'
    go_wp2_with fail
    go_ret
    exact ⟨rfl, W1.out⟩
  by_cases hk' : k.length ≤ 40
  case neg =>
    go_wp2_with fail
    refine (few_yes a A_a c_a ha' _).mono ?_
    rintro e w' ⟨rfl, hw'⟩
    rw [hw']
    clear hw' w'
    go_wp2_with fail
    refine (few_yes b A_b c_b hb' _).mono ?_
    rintro e w' ⟨rfl, hw'⟩
    rw [hw']
    clear hw' w'
    go_wp2_with fail
    refine (few_no k A_k c_k hk' _).mono ?_
    rintro e w' ⟨rfl, hw'⟩
    rw [hw']
    clear hw' w'
    go_wp2_with fail
    go_ret
    exact ⟨rfl, W1.out⟩
  go_wp2_with fail
  refine (few_yes a A_a c_a ha' _).mono ?_
  rintro e w' ⟨rfl, hw'⟩
  rw [hw']
  clear hw' w'
  go_wp2_with fail
  refine (few_yes b A_b c_b hb' _).mono ?_
  rintro e w' ⟨rfl, hw'⟩
  rw [hw']
  clear hw' w'
  go_wp2_with fail
  refine (few_yes k A_k c_k hk' _).mono ?_
  rintro e w' ⟨rfl, hw'⟩
  rw [hw']
  clear hw' w'
  have ha : a.length ≤ 1000000 := by omega
  have hb : b.length ≤ 1000000 := by omega
  have hk : k.length ≤ 1000000 := by omega
  go_wp2_with fail
  have CC := (show Calls Try.prog 14 #[.slice A_a a.length c_a] w1 fun e w' => ∃ A c, e = .returned (.slice A (nm a).length c) ∧ SL w' (· < w'.heap.size) (nm a) A c ∧ Below w1.heap.size w1 w' from by have C := normal_all a A_a c_a w1 ha S_a.out; exact C.mono fun e w' ⟨A, c, he, hs, hb⟩ => ⟨A, c, he, hs.top, hb⟩)
  refine CC.mono ?_
  clear CC
  rintro e w2 ⟨A_v1, c_v1, rfl, hs, hb⟩
  have W2 := Lib.hid (W1.out.trans (hb.mono W1.out.size))
  have T_a := Lib.hid (S_a.out.up hb)
  clear S_a
  have S_a := T_a
  clear T_a
  have T_b := Lib.hid (S_b.out.up hb)
  clear S_b
  have S_b := T_b
  clear T_b
  have T_k := Lib.hid (S_k.out.up hb)
  clear S_k
  have S_k := T_k
  clear T_k
  have S_v1 := Lib.hid hs
  clear hs
  clear hb W1
  go_wp2_with fail
  have CC := (show Calls Try.prog 16 #[.slice A_a a.length c_a, .slice A_b b.length c_b] w2 fun e w' => ∃ A c, e = .returned (.slice A (rn 0 (zw (fun x y => x || y) a b)).length c) ∧ SL w' (· < w'.heap.size) (rn 0 (zw (fun x y => x || y) a b)) A c ∧ Below w2.heap.size w2 w' from by have C := union_all a b A_a A_b c_a c_b w2 ha hb S_a.out S_b.out; exact C.mono fun e w' ⟨A, c, he, hs, hb⟩ => ⟨A, c, he, hs.top, hb⟩)
  refine CC.mono ?_
  clear CC
  rintro e w3 ⟨A_v2, c_v2, rfl, hs, hb⟩
  have W3 := Lib.hid (W2.out.trans (hb.mono W2.out.size))
  have T_a := Lib.hid (S_a.out.up hb)
  clear S_a
  have S_a := T_a
  clear T_a
  have T_b := Lib.hid (S_b.out.up hb)
  clear S_b
  have S_b := T_b
  clear T_b
  have T_k := Lib.hid (S_k.out.up hb)
  clear S_k
  have S_k := T_k
  clear T_k
  have T_v1 := Lib.hid (S_v1.out.up hb)
  clear S_v1
  have S_v1 := T_v1
  clear T_v1
  have S_v2 := Lib.hid hs
  clear hs
  clear hb W2
  go_wp2_with fail
  have CC := (show Calls Try.prog 16 #[.slice A_b b.length c_b, .slice A_a a.length c_a] w3 fun e w' => ∃ A c, e = .returned (.slice A (rn 0 (zw (fun x y => x || y) a b)).length c) ∧ SL w' (· < w'.heap.size) (rn 0 (zw (fun x y => x || y) a b)) A c ∧ Below w3.heap.size w3 w' from by have C := union_all b a A_b A_a c_b c_a w3 hb ha S_b.out S_a.out; rw [show (rn 0 (zw (fun x y => x || y) b a)) = (rn 0 (zw (fun x y => x || y) a b)) from zw_ext fun m h => by (try simp only [hit_zw _ _ _ m h]); cases hit a m <;> cases hit b m <;> rfl] at C; exact C.mono fun e w' ⟨A, c, he, hs, hb⟩ => ⟨A, c, he, hs.top, hb⟩)
  refine CC.mono ?_
  clear CC
  rintro e w4 ⟨A_v3, c_v3, rfl, hs, hb⟩
  have W4 := Lib.hid (W3.out.trans (hb.mono W3.out.size))
  have T_a := Lib.hid (S_a.out.up hb)
  clear S_a
  have S_a := T_a
  clear T_a
  have T_b := Lib.hid (S_b.out.up hb)
  clear S_b
  have S_b := T_b
  clear T_b
  have T_k := Lib.hid (S_k.out.up hb)
  clear S_k
  have S_k := T_k
  clear T_k
  have T_v1 := Lib.hid (S_v1.out.up hb)
  clear S_v1
  have S_v1 := T_v1
  clear T_v1
  have T_v2 := Lib.hid (S_v2.out.up hb)
  clear S_v2
  have S_v2 := T_v2
  clear T_v2
  have S_v3 := Lib.hid hs
  clear hs
  clear hb W3
  go_wp2_with fail
  have CC := (show Calls Try.prog 13 #[.slice A_v2 (rn 0 (zw (fun x y => x || y) a b)).length c_v2, .slice A_v3 (rn 0 (zw (fun x y => x || y) a b)).length c_v3] w4 fun e w' => e = .returned (.bool true) ∧ Below w4.heap.size w4 w' from same_all (rn 0 (zw (fun x y => x || y) a b)) A_v2 A_v3 c_v2 c_v3 w4 S_v2.out S_v3.out)
  refine CC.mono ?_
  clear CC
  rintro e w5 ⟨rfl, hb⟩
  have W5 := Lib.hid (W4.out.trans (hb.mono W4.out.size))
  have T_a := Lib.hid (S_a.out.up hb)
  clear S_a
  have S_a := T_a
  clear T_a
  have T_b := Lib.hid (S_b.out.up hb)
  clear S_b
  have S_b := T_b
  clear T_b
  have T_k := Lib.hid (S_k.out.up hb)
  clear S_k
  have S_k := T_k
  clear T_k
  have T_v1 := Lib.hid (S_v1.out.up hb)
  clear S_v1
  have S_v1 := T_v1
  clear T_v1
  clear hb W4
  go_wp2_with fail
  have CC := (show Calls Try.prog 18 #[.slice A_a a.length c_a, .slice A_b b.length c_b] w5 fun e w' => ∃ A c, e = .returned (.slice A (rn 0 (zw (fun x y => x && y) a b)).length c) ∧ SL w' (· < w'.heap.size) (rn 0 (zw (fun x y => x && y) a b)) A c ∧ Below w5.heap.size w5 w' from by have C := meet_all a b A_a A_b c_a c_b w5 ha hb S_a.out S_b.out; exact C.mono fun e w' ⟨A, c, he, hs, hb⟩ => ⟨A, c, he, hs.top, hb⟩)
  refine CC.mono ?_
  clear CC
  rintro e w6 ⟨A_v4, c_v4, rfl, hs, hb⟩
  have W6 := Lib.hid (W5.out.trans (hb.mono W5.out.size))
  have T_a := Lib.hid (S_a.out.up hb)
  clear S_a
  have S_a := T_a
  clear T_a
  have T_b := Lib.hid (S_b.out.up hb)
  clear S_b
  have S_b := T_b
  clear T_b
  have T_k := Lib.hid (S_k.out.up hb)
  clear S_k
  have S_k := T_k
  clear T_k
  have T_v1 := Lib.hid (S_v1.out.up hb)
  clear S_v1
  have S_v1 := T_v1
  clear T_v1
  have S_v4 := Lib.hid hs
  clear hs
  clear hb W5
  go_wp2_with fail
  have CC := (show Calls Try.prog 18 #[.slice A_b b.length c_b, .slice A_a a.length c_a] w6 fun e w' => ∃ A c, e = .returned (.slice A (rn 0 (zw (fun x y => x && y) a b)).length c) ∧ SL w' (· < w'.heap.size) (rn 0 (zw (fun x y => x && y) a b)) A c ∧ Below w6.heap.size w6 w' from by have C := meet_all b a A_b A_a c_b c_a w6 hb ha S_b.out S_a.out; rw [show (rn 0 (zw (fun x y => x && y) b a)) = (rn 0 (zw (fun x y => x && y) a b)) from zw_ext fun m h => by (try simp only [hit_zw _ _ _ m h]); cases hit a m <;> cases hit b m <;> rfl] at C; exact C.mono fun e w' ⟨A, c, he, hs, hb⟩ => ⟨A, c, he, hs.top, hb⟩)
  refine CC.mono ?_
  clear CC
  rintro e w7 ⟨A_v5, c_v5, rfl, hs, hb⟩
  have W7 := Lib.hid (W6.out.trans (hb.mono W6.out.size))
  have T_a := Lib.hid (S_a.out.up hb)
  clear S_a
  have S_a := T_a
  clear T_a
  have T_b := Lib.hid (S_b.out.up hb)
  clear S_b
  have S_b := T_b
  clear T_b
  have T_k := Lib.hid (S_k.out.up hb)
  clear S_k
  have S_k := T_k
  clear T_k
  have T_v1 := Lib.hid (S_v1.out.up hb)
  clear S_v1
  have S_v1 := T_v1
  clear T_v1
  have T_v4 := Lib.hid (S_v4.out.up hb)
  clear S_v4
  have S_v4 := T_v4
  clear T_v4
  have S_v5 := Lib.hid hs
  clear hs
  clear hb W6
  go_wp2_with fail
  have CC := (show Calls Try.prog 13 #[.slice A_v4 (rn 0 (zw (fun x y => x && y) a b)).length c_v4, .slice A_v5 (rn 0 (zw (fun x y => x && y) a b)).length c_v5] w7 fun e w' => e = .returned (.bool true) ∧ Below w7.heap.size w7 w' from same_all (rn 0 (zw (fun x y => x && y) a b)) A_v4 A_v5 c_v4 c_v5 w7 S_v4.out S_v5.out)
  refine CC.mono ?_
  clear CC
  rintro e w8 ⟨rfl, hb⟩
  have W8 := Lib.hid (W7.out.trans (hb.mono W7.out.size))
  have T_a := Lib.hid (S_a.out.up hb)
  clear S_a
  have S_a := T_a
  clear T_a
  have T_b := Lib.hid (S_b.out.up hb)
  clear S_b
  have S_b := T_b
  clear T_b
  have T_k := Lib.hid (S_k.out.up hb)
  clear S_k
  have S_k := T_k
  clear T_k
  have T_v1 := Lib.hid (S_v1.out.up hb)
  clear S_v1
  have S_v1 := T_v1
  clear T_v1
  clear hb W7
  go_wp2_with fail
  have CC := (show Calls Try.prog 16 #[.slice A_a a.length c_a, .slice A_b b.length c_b] w8 fun e w' => ∃ A c, e = .returned (.slice A (rn 0 (zw (fun x y => x || y) a b)).length c) ∧ SL w' (· < w'.heap.size) (rn 0 (zw (fun x y => x || y) a b)) A c ∧ Below w8.heap.size w8 w' from by have C := union_all a b A_a A_b c_a c_b w8 ha hb S_a.out S_b.out; exact C.mono fun e w' ⟨A, c, he, hs, hb⟩ => ⟨A, c, he, hs.top, hb⟩)
  refine CC.mono ?_
  clear CC
  rintro e w9 ⟨A_v6, c_v6, rfl, hs, hb⟩
  have W9 := Lib.hid (W8.out.trans (hb.mono W8.out.size))
  have T_a := Lib.hid (S_a.out.up hb)
  clear S_a
  have S_a := T_a
  clear T_a
  have T_b := Lib.hid (S_b.out.up hb)
  clear S_b
  have S_b := T_b
  clear T_b
  have T_k := Lib.hid (S_k.out.up hb)
  clear S_k
  have S_k := T_k
  clear T_k
  have T_v1 := Lib.hid (S_v1.out.up hb)
  clear S_v1
  have S_v1 := T_v1
  clear T_v1
  have S_v6 := Lib.hid hs
  clear hs
  clear hb W8
  go_wp2_with fail
  have CC := (show Calls Try.prog 16 #[.slice A_v6 (rn 0 (zw (fun x y => x || y) a b)).length c_v6, .slice A_k k.length c_k] w9 fun e w' => ∃ A c, e = .returned (.slice A (rn 0 (zw (fun x y => x || y) (rn 0 (zw (fun x y => x || y) a b)) k)).length c) ∧ SL w' (· < w'.heap.size) (rn 0 (zw (fun x y => x || y) (rn 0 (zw (fun x y => x || y) a b)) k)) A c ∧ Below w9.heap.size w9 w' from by have C := union_all (rn 0 (zw (fun x y => x || y) a b)) k A_v6 A_k c_v6 c_k w9 (zlen _ _ _) hk S_v6.out S_k.out; exact C.mono fun e w' ⟨A, c, he, hs, hb⟩ => ⟨A, c, he, hs.top, hb⟩)
  refine CC.mono ?_
  clear CC
  rintro e w10 ⟨A_v7, c_v7, rfl, hs, hb⟩
  have W10 := Lib.hid (W9.out.trans (hb.mono W9.out.size))
  have T_a := Lib.hid (S_a.out.up hb)
  clear S_a
  have S_a := T_a
  clear T_a
  have T_b := Lib.hid (S_b.out.up hb)
  clear S_b
  have S_b := T_b
  clear T_b
  have T_k := Lib.hid (S_k.out.up hb)
  clear S_k
  have S_k := T_k
  clear T_k
  have T_v1 := Lib.hid (S_v1.out.up hb)
  clear S_v1
  have S_v1 := T_v1
  clear T_v1
  have S_v7 := Lib.hid hs
  clear hs
  clear hb W9
  go_wp2_with fail
  have CC := (show Calls Try.prog 16 #[.slice A_b b.length c_b, .slice A_k k.length c_k] w10 fun e w' => ∃ A c, e = .returned (.slice A (rn 0 (zw (fun x y => x || y) b k)).length c) ∧ SL w' (· < w'.heap.size) (rn 0 (zw (fun x y => x || y) b k)) A c ∧ Below w10.heap.size w10 w' from by have C := union_all b k A_b A_k c_b c_k w10 hb hk S_b.out S_k.out; exact C.mono fun e w' ⟨A, c, he, hs, hb⟩ => ⟨A, c, he, hs.top, hb⟩)
  refine CC.mono ?_
  clear CC
  rintro e w11 ⟨A_v8, c_v8, rfl, hs, hb⟩
  have W11 := Lib.hid (W10.out.trans (hb.mono W10.out.size))
  have T_a := Lib.hid (S_a.out.up hb)
  clear S_a
  have S_a := T_a
  clear T_a
  have T_b := Lib.hid (S_b.out.up hb)
  clear S_b
  have S_b := T_b
  clear T_b
  have T_k := Lib.hid (S_k.out.up hb)
  clear S_k
  have S_k := T_k
  clear T_k
  have T_v1 := Lib.hid (S_v1.out.up hb)
  clear S_v1
  have S_v1 := T_v1
  clear T_v1
  have T_v7 := Lib.hid (S_v7.out.up hb)
  clear S_v7
  have S_v7 := T_v7
  clear T_v7
  have S_v8 := Lib.hid hs
  clear hs
  clear hb W10
  go_wp2_with fail
  have CC := (show Calls Try.prog 16 #[.slice A_a a.length c_a, .slice A_v8 (rn 0 (zw (fun x y => x || y) b k)).length c_v8] w11 fun e w' => ∃ A c, e = .returned (.slice A (rn 0 (zw (fun x y => x || y) (rn 0 (zw (fun x y => x || y) a b)) k)).length c) ∧ SL w' (· < w'.heap.size) (rn 0 (zw (fun x y => x || y) (rn 0 (zw (fun x y => x || y) a b)) k)) A c ∧ Below w11.heap.size w11 w' from by have C := union_all a (rn 0 (zw (fun x y => x || y) b k)) A_a A_v8 c_a c_v8 w11 ha (zlen _ _ _) S_a.out S_v8.out; rw [show (rn 0 (zw (fun x y => x || y) a (rn 0 (zw (fun x y => x || y) b k)))) = (rn 0 (zw (fun x y => x || y) (rn 0 (zw (fun x y => x || y) a b)) k)) from zw_ext fun m h => by (try simp only [hit_zw _ _ _ m h]); cases hit a m <;> cases hit b m <;> cases hit k m <;> rfl] at C; exact C.mono fun e w' ⟨A, c, he, hs, hb⟩ => ⟨A, c, he, hs.top, hb⟩)
  refine CC.mono ?_
  clear CC
  rintro e w12 ⟨A_v9, c_v9, rfl, hs, hb⟩
  have W12 := Lib.hid (W11.out.trans (hb.mono W11.out.size))
  have T_a := Lib.hid (S_a.out.up hb)
  clear S_a
  have S_a := T_a
  clear T_a
  have T_b := Lib.hid (S_b.out.up hb)
  clear S_b
  have S_b := T_b
  clear T_b
  have T_k := Lib.hid (S_k.out.up hb)
  clear S_k
  have S_k := T_k
  clear T_k
  have T_v1 := Lib.hid (S_v1.out.up hb)
  clear S_v1
  have S_v1 := T_v1
  clear T_v1
  have T_v7 := Lib.hid (S_v7.out.up hb)
  clear S_v7
  have S_v7 := T_v7
  clear T_v7
  have S_v9 := Lib.hid hs
  clear hs
  clear hb W11
  go_wp2_with fail
  have CC := (show Calls Try.prog 13 #[.slice A_v7 (rn 0 (zw (fun x y => x || y) (rn 0 (zw (fun x y => x || y) a b)) k)).length c_v7, .slice A_v9 (rn 0 (zw (fun x y => x || y) (rn 0 (zw (fun x y => x || y) a b)) k)).length c_v9] w12 fun e w' => e = .returned (.bool true) ∧ Below w12.heap.size w12 w' from same_all (rn 0 (zw (fun x y => x || y) (rn 0 (zw (fun x y => x || y) a b)) k)) A_v7 A_v9 c_v7 c_v9 w12 S_v7.out S_v9.out)
  refine CC.mono ?_
  clear CC
  rintro e w13 ⟨rfl, hb⟩
  have W13 := Lib.hid (W12.out.trans (hb.mono W12.out.size))
  have T_a := Lib.hid (S_a.out.up hb)
  clear S_a
  have S_a := T_a
  clear T_a
  have T_b := Lib.hid (S_b.out.up hb)
  clear S_b
  have S_b := T_b
  clear T_b
  have T_k := Lib.hid (S_k.out.up hb)
  clear S_k
  have S_k := T_k
  clear T_k
  have T_v1 := Lib.hid (S_v1.out.up hb)
  clear S_v1
  have S_v1 := T_v1
  clear T_v1
  clear hb W12
  go_wp2_with fail
  have CC := (show Calls Try.prog 18 #[.slice A_a a.length c_a, .slice A_b b.length c_b] w13 fun e w' => ∃ A c, e = .returned (.slice A (rn 0 (zw (fun x y => x && y) a b)).length c) ∧ SL w' (· < w'.heap.size) (rn 0 (zw (fun x y => x && y) a b)) A c ∧ Below w13.heap.size w13 w' from by have C := meet_all a b A_a A_b c_a c_b w13 ha hb S_a.out S_b.out; exact C.mono fun e w' ⟨A, c, he, hs, hb⟩ => ⟨A, c, he, hs.top, hb⟩)
  refine CC.mono ?_
  clear CC
  rintro e w14 ⟨A_v10, c_v10, rfl, hs, hb⟩
  have W14 := Lib.hid (W13.out.trans (hb.mono W13.out.size))
  have T_a := Lib.hid (S_a.out.up hb)
  clear S_a
  have S_a := T_a
  clear T_a
  have T_b := Lib.hid (S_b.out.up hb)
  clear S_b
  have S_b := T_b
  clear T_b
  have T_k := Lib.hid (S_k.out.up hb)
  clear S_k
  have S_k := T_k
  clear T_k
  have T_v1 := Lib.hid (S_v1.out.up hb)
  clear S_v1
  have S_v1 := T_v1
  clear T_v1
  have S_v10 := Lib.hid hs
  clear hs
  clear hb W13
  go_wp2_with fail
  have CC := (show Calls Try.prog 18 #[.slice A_v10 (rn 0 (zw (fun x y => x && y) a b)).length c_v10, .slice A_k k.length c_k] w14 fun e w' => ∃ A c, e = .returned (.slice A (rn 0 (zw (fun x y => x && y) (rn 0 (zw (fun x y => x && y) a b)) k)).length c) ∧ SL w' (· < w'.heap.size) (rn 0 (zw (fun x y => x && y) (rn 0 (zw (fun x y => x && y) a b)) k)) A c ∧ Below w14.heap.size w14 w' from by have C := meet_all (rn 0 (zw (fun x y => x && y) a b)) k A_v10 A_k c_v10 c_k w14 (zlen _ _ _) hk S_v10.out S_k.out; exact C.mono fun e w' ⟨A, c, he, hs, hb⟩ => ⟨A, c, he, hs.top, hb⟩)
  refine CC.mono ?_
  clear CC
  rintro e w15 ⟨A_v11, c_v11, rfl, hs, hb⟩
  have W15 := Lib.hid (W14.out.trans (hb.mono W14.out.size))
  have T_a := Lib.hid (S_a.out.up hb)
  clear S_a
  have S_a := T_a
  clear T_a
  have T_b := Lib.hid (S_b.out.up hb)
  clear S_b
  have S_b := T_b
  clear T_b
  have T_k := Lib.hid (S_k.out.up hb)
  clear S_k
  have S_k := T_k
  clear T_k
  have T_v1 := Lib.hid (S_v1.out.up hb)
  clear S_v1
  have S_v1 := T_v1
  clear T_v1
  have S_v11 := Lib.hid hs
  clear hs
  clear hb W14
  go_wp2_with fail
  have CC := (show Calls Try.prog 18 #[.slice A_b b.length c_b, .slice A_k k.length c_k] w15 fun e w' => ∃ A c, e = .returned (.slice A (rn 0 (zw (fun x y => x && y) b k)).length c) ∧ SL w' (· < w'.heap.size) (rn 0 (zw (fun x y => x && y) b k)) A c ∧ Below w15.heap.size w15 w' from by have C := meet_all b k A_b A_k c_b c_k w15 hb hk S_b.out S_k.out; exact C.mono fun e w' ⟨A, c, he, hs, hb⟩ => ⟨A, c, he, hs.top, hb⟩)
  refine CC.mono ?_
  clear CC
  rintro e w16 ⟨A_v12, c_v12, rfl, hs, hb⟩
  have W16 := Lib.hid (W15.out.trans (hb.mono W15.out.size))
  have T_a := Lib.hid (S_a.out.up hb)
  clear S_a
  have S_a := T_a
  clear T_a
  have T_b := Lib.hid (S_b.out.up hb)
  clear S_b
  have S_b := T_b
  clear T_b
  have T_k := Lib.hid (S_k.out.up hb)
  clear S_k
  have S_k := T_k
  clear T_k
  have T_v1 := Lib.hid (S_v1.out.up hb)
  clear S_v1
  have S_v1 := T_v1
  clear T_v1
  have T_v11 := Lib.hid (S_v11.out.up hb)
  clear S_v11
  have S_v11 := T_v11
  clear T_v11
  have S_v12 := Lib.hid hs
  clear hs
  clear hb W15
  go_wp2_with fail
  have CC := (show Calls Try.prog 18 #[.slice A_a a.length c_a, .slice A_v12 (rn 0 (zw (fun x y => x && y) b k)).length c_v12] w16 fun e w' => ∃ A c, e = .returned (.slice A (rn 0 (zw (fun x y => x && y) (rn 0 (zw (fun x y => x && y) a b)) k)).length c) ∧ SL w' (· < w'.heap.size) (rn 0 (zw (fun x y => x && y) (rn 0 (zw (fun x y => x && y) a b)) k)) A c ∧ Below w16.heap.size w16 w' from by have C := meet_all a (rn 0 (zw (fun x y => x && y) b k)) A_a A_v12 c_a c_v12 w16 ha (zlen _ _ _) S_a.out S_v12.out; rw [show (rn 0 (zw (fun x y => x && y) a (rn 0 (zw (fun x y => x && y) b k)))) = (rn 0 (zw (fun x y => x && y) (rn 0 (zw (fun x y => x && y) a b)) k)) from zw_ext fun m h => by (try simp only [hit_zw _ _ _ m h]); cases hit a m <;> cases hit b m <;> cases hit k m <;> rfl] at C; exact C.mono fun e w' ⟨A, c, he, hs, hb⟩ => ⟨A, c, he, hs.top, hb⟩)
  refine CC.mono ?_
  clear CC
  rintro e w17 ⟨A_v13, c_v13, rfl, hs, hb⟩
  have W17 := Lib.hid (W16.out.trans (hb.mono W16.out.size))
  have T_a := Lib.hid (S_a.out.up hb)
  clear S_a
  have S_a := T_a
  clear T_a
  have T_b := Lib.hid (S_b.out.up hb)
  clear S_b
  have S_b := T_b
  clear T_b
  have T_k := Lib.hid (S_k.out.up hb)
  clear S_k
  have S_k := T_k
  clear T_k
  have T_v1 := Lib.hid (S_v1.out.up hb)
  clear S_v1
  have S_v1 := T_v1
  clear T_v1
  have T_v11 := Lib.hid (S_v11.out.up hb)
  clear S_v11
  have S_v11 := T_v11
  clear T_v11
  have S_v13 := Lib.hid hs
  clear hs
  clear hb W16
  go_wp2_with fail
  have CC := (show Calls Try.prog 13 #[.slice A_v11 (rn 0 (zw (fun x y => x && y) (rn 0 (zw (fun x y => x && y) a b)) k)).length c_v11, .slice A_v13 (rn 0 (zw (fun x y => x && y) (rn 0 (zw (fun x y => x && y) a b)) k)).length c_v13] w17 fun e w' => e = .returned (.bool true) ∧ Below w17.heap.size w17 w' from same_all (rn 0 (zw (fun x y => x && y) (rn 0 (zw (fun x y => x && y) a b)) k)) A_v11 A_v13 c_v11 c_v13 w17 S_v11.out S_v13.out)
  refine CC.mono ?_
  clear CC
  rintro e w18 ⟨rfl, hb⟩
  have W18 := Lib.hid (W17.out.trans (hb.mono W17.out.size))
  have T_a := Lib.hid (S_a.out.up hb)
  clear S_a
  have S_a := T_a
  clear T_a
  have T_b := Lib.hid (S_b.out.up hb)
  clear S_b
  have S_b := T_b
  clear T_b
  have T_k := Lib.hid (S_k.out.up hb)
  clear S_k
  have S_k := T_k
  clear T_k
  have T_v1 := Lib.hid (S_v1.out.up hb)
  clear S_v1
  have S_v1 := T_v1
  clear T_v1
  clear hb W17
  go_wp2_with fail
  have CC := (show Calls Try.prog 16 #[.slice A_b b.length c_b, .slice A_k k.length c_k] w18 fun e w' => ∃ A c, e = .returned (.slice A (rn 0 (zw (fun x y => x || y) b k)).length c) ∧ SL w' (· < w'.heap.size) (rn 0 (zw (fun x y => x || y) b k)) A c ∧ Below w18.heap.size w18 w' from by have C := union_all b k A_b A_k c_b c_k w18 hb hk S_b.out S_k.out; exact C.mono fun e w' ⟨A, c, he, hs, hb⟩ => ⟨A, c, he, hs.top, hb⟩)
  refine CC.mono ?_
  clear CC
  rintro e w19 ⟨A_v14, c_v14, rfl, hs, hb⟩
  have W19 := Lib.hid (W18.out.trans (hb.mono W18.out.size))
  have T_a := Lib.hid (S_a.out.up hb)
  clear S_a
  have S_a := T_a
  clear T_a
  have T_b := Lib.hid (S_b.out.up hb)
  clear S_b
  have S_b := T_b
  clear T_b
  have T_k := Lib.hid (S_k.out.up hb)
  clear S_k
  have S_k := T_k
  clear T_k
  have T_v1 := Lib.hid (S_v1.out.up hb)
  clear S_v1
  have S_v1 := T_v1
  clear T_v1
  have S_v14 := Lib.hid hs
  clear hs
  clear hb W18
  go_wp2_with fail
  have CC := (show Calls Try.prog 18 #[.slice A_a a.length c_a, .slice A_v14 (rn 0 (zw (fun x y => x || y) b k)).length c_v14] w19 fun e w' => ∃ A c, e = .returned (.slice A (rn 0 (zw (fun x y => x && y) a (rn 0 (zw (fun x y => x || y) b k)))).length c) ∧ SL w' (· < w'.heap.size) (rn 0 (zw (fun x y => x && y) a (rn 0 (zw (fun x y => x || y) b k)))) A c ∧ Below w19.heap.size w19 w' from by have C := meet_all a (rn 0 (zw (fun x y => x || y) b k)) A_a A_v14 c_a c_v14 w19 ha (zlen _ _ _) S_a.out S_v14.out; exact C.mono fun e w' ⟨A, c, he, hs, hb⟩ => ⟨A, c, he, hs.top, hb⟩)
  refine CC.mono ?_
  clear CC
  rintro e w20 ⟨A_v15, c_v15, rfl, hs, hb⟩
  have W20 := Lib.hid (W19.out.trans (hb.mono W19.out.size))
  have T_a := Lib.hid (S_a.out.up hb)
  clear S_a
  have S_a := T_a
  clear T_a
  have T_b := Lib.hid (S_b.out.up hb)
  clear S_b
  have S_b := T_b
  clear T_b
  have T_k := Lib.hid (S_k.out.up hb)
  clear S_k
  have S_k := T_k
  clear T_k
  have T_v1 := Lib.hid (S_v1.out.up hb)
  clear S_v1
  have S_v1 := T_v1
  clear T_v1
  have S_v15 := Lib.hid hs
  clear hs
  clear hb W19
  go_wp2_with fail
  have CC := (show Calls Try.prog 18 #[.slice A_a a.length c_a, .slice A_b b.length c_b] w20 fun e w' => ∃ A c, e = .returned (.slice A (rn 0 (zw (fun x y => x && y) a b)).length c) ∧ SL w' (· < w'.heap.size) (rn 0 (zw (fun x y => x && y) a b)) A c ∧ Below w20.heap.size w20 w' from by have C := meet_all a b A_a A_b c_a c_b w20 ha hb S_a.out S_b.out; exact C.mono fun e w' ⟨A, c, he, hs, hb⟩ => ⟨A, c, he, hs.top, hb⟩)
  refine CC.mono ?_
  clear CC
  rintro e w21 ⟨A_v16, c_v16, rfl, hs, hb⟩
  have W21 := Lib.hid (W20.out.trans (hb.mono W20.out.size))
  have T_a := Lib.hid (S_a.out.up hb)
  clear S_a
  have S_a := T_a
  clear T_a
  have T_b := Lib.hid (S_b.out.up hb)
  clear S_b
  have S_b := T_b
  clear T_b
  have T_k := Lib.hid (S_k.out.up hb)
  clear S_k
  have S_k := T_k
  clear T_k
  have T_v1 := Lib.hid (S_v1.out.up hb)
  clear S_v1
  have S_v1 := T_v1
  clear T_v1
  have T_v15 := Lib.hid (S_v15.out.up hb)
  clear S_v15
  have S_v15 := T_v15
  clear T_v15
  have S_v16 := Lib.hid hs
  clear hs
  clear hb W20
  go_wp2_with fail
  have CC := (show Calls Try.prog 18 #[.slice A_a a.length c_a, .slice A_k k.length c_k] w21 fun e w' => ∃ A c, e = .returned (.slice A (rn 0 (zw (fun x y => x && y) a k)).length c) ∧ SL w' (· < w'.heap.size) (rn 0 (zw (fun x y => x && y) a k)) A c ∧ Below w21.heap.size w21 w' from by have C := meet_all a k A_a A_k c_a c_k w21 ha hk S_a.out S_k.out; exact C.mono fun e w' ⟨A, c, he, hs, hb⟩ => ⟨A, c, he, hs.top, hb⟩)
  refine CC.mono ?_
  clear CC
  rintro e w22 ⟨A_v17, c_v17, rfl, hs, hb⟩
  have W22 := Lib.hid (W21.out.trans (hb.mono W21.out.size))
  have T_a := Lib.hid (S_a.out.up hb)
  clear S_a
  have S_a := T_a
  clear T_a
  have T_b := Lib.hid (S_b.out.up hb)
  clear S_b
  have S_b := T_b
  clear T_b
  have T_k := Lib.hid (S_k.out.up hb)
  clear S_k
  have S_k := T_k
  clear T_k
  have T_v1 := Lib.hid (S_v1.out.up hb)
  clear S_v1
  have S_v1 := T_v1
  clear T_v1
  have T_v15 := Lib.hid (S_v15.out.up hb)
  clear S_v15
  have S_v15 := T_v15
  clear T_v15
  have T_v16 := Lib.hid (S_v16.out.up hb)
  clear S_v16
  have S_v16 := T_v16
  clear T_v16
  have S_v17 := Lib.hid hs
  clear hs
  clear hb W21
  go_wp2_with fail
  have CC := (show Calls Try.prog 16 #[.slice A_v16 (rn 0 (zw (fun x y => x && y) a b)).length c_v16, .slice A_v17 (rn 0 (zw (fun x y => x && y) a k)).length c_v17] w22 fun e w' => ∃ A c, e = .returned (.slice A (rn 0 (zw (fun x y => x && y) a (rn 0 (zw (fun x y => x || y) b k)))).length c) ∧ SL w' (· < w'.heap.size) (rn 0 (zw (fun x y => x && y) a (rn 0 (zw (fun x y => x || y) b k)))) A c ∧ Below w22.heap.size w22 w' from by have C := union_all (rn 0 (zw (fun x y => x && y) a b)) (rn 0 (zw (fun x y => x && y) a k)) A_v16 A_v17 c_v16 c_v17 w22 (zlen _ _ _) (zlen _ _ _) S_v16.out S_v17.out; rw [show (rn 0 (zw (fun x y => x || y) (rn 0 (zw (fun x y => x && y) a b)) (rn 0 (zw (fun x y => x && y) a k)))) = (rn 0 (zw (fun x y => x && y) a (rn 0 (zw (fun x y => x || y) b k)))) from zw_ext fun m h => by (try simp only [hit_zw _ _ _ m h]); cases hit a m <;> cases hit b m <;> cases hit k m <;> rfl] at C; exact C.mono fun e w' ⟨A, c, he, hs, hb⟩ => ⟨A, c, he, hs.top, hb⟩)
  refine CC.mono ?_
  clear CC
  rintro e w23 ⟨A_v18, c_v18, rfl, hs, hb⟩
  have W23 := Lib.hid (W22.out.trans (hb.mono W22.out.size))
  have T_a := Lib.hid (S_a.out.up hb)
  clear S_a
  have S_a := T_a
  clear T_a
  have T_b := Lib.hid (S_b.out.up hb)
  clear S_b
  have S_b := T_b
  clear T_b
  have T_k := Lib.hid (S_k.out.up hb)
  clear S_k
  have S_k := T_k
  clear T_k
  have T_v1 := Lib.hid (S_v1.out.up hb)
  clear S_v1
  have S_v1 := T_v1
  clear T_v1
  have T_v15 := Lib.hid (S_v15.out.up hb)
  clear S_v15
  have S_v15 := T_v15
  clear T_v15
  have S_v18 := Lib.hid hs
  clear hs
  clear hb W22
  go_wp2_with fail
  have CC := (show Calls Try.prog 13 #[.slice A_v15 (rn 0 (zw (fun x y => x && y) a (rn 0 (zw (fun x y => x || y) b k)))).length c_v15, .slice A_v18 (rn 0 (zw (fun x y => x && y) a (rn 0 (zw (fun x y => x || y) b k)))).length c_v18] w23 fun e w' => e = .returned (.bool true) ∧ Below w23.heap.size w23 w' from same_all (rn 0 (zw (fun x y => x && y) a (rn 0 (zw (fun x y => x || y) b k)))) A_v15 A_v18 c_v15 c_v18 w23 S_v15.out S_v18.out)
  refine CC.mono ?_
  clear CC
  rintro e w24 ⟨rfl, hb⟩
  have W24 := Lib.hid (W23.out.trans (hb.mono W23.out.size))
  have T_a := Lib.hid (S_a.out.up hb)
  clear S_a
  have S_a := T_a
  clear T_a
  have T_b := Lib.hid (S_b.out.up hb)
  clear S_b
  have S_b := T_b
  clear T_b
  have T_k := Lib.hid (S_k.out.up hb)
  clear S_k
  have S_k := T_k
  clear T_k
  have T_v1 := Lib.hid (S_v1.out.up hb)
  clear S_v1
  have S_v1 := T_v1
  clear T_v1
  clear hb W23
  go_wp2_with fail
  have CC := (show Calls Try.prog 16 #[.slice A_a a.length c_a, .slice A_a a.length c_a] w24 fun e w' => ∃ A c, e = .returned (.slice A (nm a).length c) ∧ SL w' (· < w'.heap.size) (nm a) A c ∧ Below w24.heap.size w24 w' from by have C := union_all a a A_a A_a c_a c_a w24 ha ha S_a.out S_a.out; rw [show (rn 0 (zw (fun x y => x || y) a a)) = (nm a) from zw_nm fun m h => by (try simp only [hit_zw _ _ _ m h]); cases hit a m <;> rfl] at C; exact C.mono fun e w' ⟨A, c, he, hs, hb⟩ => ⟨A, c, he, hs.top, hb⟩)
  refine CC.mono ?_
  clear CC
  rintro e w25 ⟨A_v19, c_v19, rfl, hs, hb⟩
  have W25 := Lib.hid (W24.out.trans (hb.mono W24.out.size))
  have T_a := Lib.hid (S_a.out.up hb)
  clear S_a
  have S_a := T_a
  clear T_a
  have T_b := Lib.hid (S_b.out.up hb)
  clear S_b
  have S_b := T_b
  clear T_b
  have T_k := Lib.hid (S_k.out.up hb)
  clear S_k
  have S_k := T_k
  clear T_k
  have T_v1 := Lib.hid (S_v1.out.up hb)
  clear S_v1
  have S_v1 := T_v1
  clear T_v1
  have S_v19 := Lib.hid hs
  clear hs
  clear hb W24
  go_wp2_with fail
  have CC := (show Calls Try.prog 13 #[.slice A_v19 (nm a).length c_v19, .slice A_v1 (nm a).length c_v1] w25 fun e w' => e = .returned (.bool true) ∧ Below w25.heap.size w25 w' from same_all (nm a) A_v19 A_v1 c_v19 c_v1 w25 S_v19.out S_v1.out)
  refine CC.mono ?_
  clear CC
  rintro e w26 ⟨rfl, hb⟩
  have W26 := Lib.hid (W25.out.trans (hb.mono W25.out.size))
  have T_a := Lib.hid (S_a.out.up hb)
  clear S_a
  have S_a := T_a
  clear T_a
  have T_b := Lib.hid (S_b.out.up hb)
  clear S_b
  have S_b := T_b
  clear T_b
  have T_k := Lib.hid (S_k.out.up hb)
  clear S_k
  have S_k := T_k
  clear T_k
  have T_v1 := Lib.hid (S_v1.out.up hb)
  clear S_v1
  have S_v1 := T_v1
  clear T_v1
  clear hb W25
  go_wp2_with fail
  have CC := (show Calls Try.prog 18 #[.slice A_a a.length c_a, .slice A_a a.length c_a] w26 fun e w' => ∃ A c, e = .returned (.slice A (nm a).length c) ∧ SL w' (· < w'.heap.size) (nm a) A c ∧ Below w26.heap.size w26 w' from by have C := meet_all a a A_a A_a c_a c_a w26 ha ha S_a.out S_a.out; rw [show (rn 0 (zw (fun x y => x && y) a a)) = (nm a) from zw_nm fun m h => by (try simp only [hit_zw _ _ _ m h]); cases hit a m <;> rfl] at C; exact C.mono fun e w' ⟨A, c, he, hs, hb⟩ => ⟨A, c, he, hs.top, hb⟩)
  refine CC.mono ?_
  clear CC
  rintro e w27 ⟨A_v20, c_v20, rfl, hs, hb⟩
  have W27 := Lib.hid (W26.out.trans (hb.mono W26.out.size))
  have T_a := Lib.hid (S_a.out.up hb)
  clear S_a
  have S_a := T_a
  clear T_a
  have T_b := Lib.hid (S_b.out.up hb)
  clear S_b
  have S_b := T_b
  clear T_b
  have T_k := Lib.hid (S_k.out.up hb)
  clear S_k
  have S_k := T_k
  clear T_k
  have T_v1 := Lib.hid (S_v1.out.up hb)
  clear S_v1
  have S_v1 := T_v1
  clear T_v1
  have S_v20 := Lib.hid hs
  clear hs
  clear hb W26
  go_wp2_with fail
  have CC := (show Calls Try.prog 13 #[.slice A_v20 (nm a).length c_v20, .slice A_v1 (nm a).length c_v1] w27 fun e w' => e = .returned (.bool true) ∧ Below w27.heap.size w27 w' from same_all (nm a) A_v20 A_v1 c_v20 c_v1 w27 S_v20.out S_v1.out)
  refine CC.mono ?_
  clear CC
  rintro e w28 ⟨rfl, hb⟩
  have W28 := Lib.hid (W27.out.trans (hb.mono W27.out.size))
  have T_a := Lib.hid (S_a.out.up hb)
  clear S_a
  have S_a := T_a
  clear T_a
  have T_b := Lib.hid (S_b.out.up hb)
  clear S_b
  have S_b := T_b
  clear T_b
  have T_k := Lib.hid (S_k.out.up hb)
  clear S_k
  have S_k := T_k
  clear T_k
  have T_v1 := Lib.hid (S_v1.out.up hb)
  clear S_v1
  have S_v1 := T_v1
  clear T_v1
  clear hb W27
  go_wp2_with fail
  have CC := (show Calls Try.prog 14 #[.slice A_v1 (nm a).length c_v1] w28 fun e w' => ∃ A c, e = .returned (.slice A (nm a).length c) ∧ SL w' (· < w'.heap.size) (nm a) A c ∧ Below w28.heap.size w28 w' from by have C := normal_all (nm a) A_v1 c_v1 w28 (nlen _) S_v1.out; rw [show (nm (nm a)) = (nm a) from nm_nm a] at C; exact C.mono fun e w' ⟨A, c, he, hs, hb⟩ => ⟨A, c, he, hs.top, hb⟩)
  refine CC.mono ?_
  clear CC
  rintro e w29 ⟨A_v21, c_v21, rfl, hs, hb⟩
  have W29 := Lib.hid (W28.out.trans (hb.mono W28.out.size))
  have T_a := Lib.hid (S_a.out.up hb)
  clear S_a
  have S_a := T_a
  clear T_a
  have T_b := Lib.hid (S_b.out.up hb)
  clear S_b
  have S_b := T_b
  clear T_b
  have T_k := Lib.hid (S_k.out.up hb)
  clear S_k
  have S_k := T_k
  clear T_k
  have T_v1 := Lib.hid (S_v1.out.up hb)
  clear S_v1
  have S_v1 := T_v1
  clear T_v1
  have S_v21 := Lib.hid hs
  clear hs
  clear hb W28
  go_wp2_with fail
  have CC := (show Calls Try.prog 13 #[.slice A_v21 (nm a).length c_v21, .slice A_v1 (nm a).length c_v1] w29 fun e w' => e = .returned (.bool true) ∧ Below w29.heap.size w29 w' from same_all (nm a) A_v21 A_v1 c_v21 c_v1 w29 S_v21.out S_v1.out)
  refine CC.mono ?_
  clear CC
  rintro e w30 ⟨rfl, hb⟩
  have W30 := Lib.hid (W29.out.trans (hb.mono W29.out.size))
  have T_a := Lib.hid (S_a.out.up hb)
  clear S_a
  have S_a := T_a
  clear T_a
  have T_b := Lib.hid (S_b.out.up hb)
  clear S_b
  have S_b := T_b
  clear T_b
  have T_k := Lib.hid (S_k.out.up hb)
  clear S_k
  have S_k := T_k
  clear T_k
  have T_v1 := Lib.hid (S_v1.out.up hb)
  clear S_v1
  have S_v1 := T_v1
  clear T_v1
  clear hb W29
  go_wp2_with fail
  have CC := (show Calls Try.prog 16 #[.slice A_b b.length c_b, .slice A_k k.length c_k] w30 fun e w' => ∃ A c, e = .returned (.slice A (rn 0 (zw (fun x y => x || y) b k)).length c) ∧ SL w' (· < w'.heap.size) (rn 0 (zw (fun x y => x || y) b k)) A c ∧ Below w30.heap.size w30 w' from by have C := union_all b k A_b A_k c_b c_k w30 hb hk S_b.out S_k.out; exact C.mono fun e w' ⟨A, c, he, hs, hb⟩ => ⟨A, c, he, hs.top, hb⟩)
  refine CC.mono ?_
  clear CC
  rintro e w31 ⟨A_v22, c_v22, rfl, hs, hb⟩
  have W31 := Lib.hid (W30.out.trans (hb.mono W30.out.size))
  have T_a := Lib.hid (S_a.out.up hb)
  clear S_a
  have S_a := T_a
  clear T_a
  have T_b := Lib.hid (S_b.out.up hb)
  clear S_b
  have S_b := T_b
  clear T_b
  have T_k := Lib.hid (S_k.out.up hb)
  clear S_k
  have S_k := T_k
  clear T_k
  have T_v1 := Lib.hid (S_v1.out.up hb)
  clear S_v1
  have S_v1 := T_v1
  clear T_v1
  have S_v22 := Lib.hid hs
  clear hs
  clear hb W30
  go_wp2_with fail
  have CC := (show Calls Try.prog 20 #[.slice A_a a.length c_a, .slice A_v22 (rn 0 (zw (fun x y => x || y) b k)).length c_v22] w31 fun e w' => ∃ A c, e = .returned (.slice A (rn 0 (zw (fun x y => x && !y) a (rn 0 (zw (fun x y => x || y) b k)))).length c) ∧ SL w' (· < w'.heap.size) (rn 0 (zw (fun x y => x && !y) a (rn 0 (zw (fun x y => x || y) b k)))) A c ∧ Below w31.heap.size w31 w' from by have C := minus_all a (rn 0 (zw (fun x y => x || y) b k)) A_a A_v22 c_a c_v22 w31 ha (zlen _ _ _) S_a.out S_v22.out; exact C.mono fun e w' ⟨A, c, he, hs, hb⟩ => ⟨A, c, he, hs.top, hb⟩)
  refine CC.mono ?_
  clear CC
  rintro e w32 ⟨A_v23, c_v23, rfl, hs, hb⟩
  have W32 := Lib.hid (W31.out.trans (hb.mono W31.out.size))
  have T_a := Lib.hid (S_a.out.up hb)
  clear S_a
  have S_a := T_a
  clear T_a
  have T_b := Lib.hid (S_b.out.up hb)
  clear S_b
  have S_b := T_b
  clear T_b
  have T_k := Lib.hid (S_k.out.up hb)
  clear S_k
  have S_k := T_k
  clear T_k
  have T_v1 := Lib.hid (S_v1.out.up hb)
  clear S_v1
  have S_v1 := T_v1
  clear T_v1
  have S_v23 := Lib.hid hs
  clear hs
  clear hb W31
  go_wp2_with fail
  have CC := (show Calls Try.prog 20 #[.slice A_a a.length c_a, .slice A_b b.length c_b] w32 fun e w' => ∃ A c, e = .returned (.slice A (rn 0 (zw (fun x y => x && !y) a b)).length c) ∧ SL w' (· < w'.heap.size) (rn 0 (zw (fun x y => x && !y) a b)) A c ∧ Below w32.heap.size w32 w' from by have C := minus_all a b A_a A_b c_a c_b w32 ha hb S_a.out S_b.out; exact C.mono fun e w' ⟨A, c, he, hs, hb⟩ => ⟨A, c, he, hs.top, hb⟩)
  refine CC.mono ?_
  clear CC
  rintro e w33 ⟨A_v24, c_v24, rfl, hs, hb⟩
  have W33 := Lib.hid (W32.out.trans (hb.mono W32.out.size))
  have T_a := Lib.hid (S_a.out.up hb)
  clear S_a
  have S_a := T_a
  clear T_a
  have T_b := Lib.hid (S_b.out.up hb)
  clear S_b
  have S_b := T_b
  clear T_b
  have T_k := Lib.hid (S_k.out.up hb)
  clear S_k
  have S_k := T_k
  clear T_k
  have T_v1 := Lib.hid (S_v1.out.up hb)
  clear S_v1
  have S_v1 := T_v1
  clear T_v1
  have T_v23 := Lib.hid (S_v23.out.up hb)
  clear S_v23
  have S_v23 := T_v23
  clear T_v23
  have S_v24 := Lib.hid hs
  clear hs
  clear hb W32
  go_wp2_with fail
  have CC := (show Calls Try.prog 20 #[.slice A_v24 (rn 0 (zw (fun x y => x && !y) a b)).length c_v24, .slice A_k k.length c_k] w33 fun e w' => ∃ A c, e = .returned (.slice A (rn 0 (zw (fun x y => x && !y) a (rn 0 (zw (fun x y => x || y) b k)))).length c) ∧ SL w' (· < w'.heap.size) (rn 0 (zw (fun x y => x && !y) a (rn 0 (zw (fun x y => x || y) b k)))) A c ∧ Below w33.heap.size w33 w' from by have C := minus_all (rn 0 (zw (fun x y => x && !y) a b)) k A_v24 A_k c_v24 c_k w33 (zlen _ _ _) hk S_v24.out S_k.out; rw [show (rn 0 (zw (fun x y => x && !y) (rn 0 (zw (fun x y => x && !y) a b)) k)) = (rn 0 (zw (fun x y => x && !y) a (rn 0 (zw (fun x y => x || y) b k)))) from zw_ext fun m h => by (try simp only [hit_zw _ _ _ m h]); cases hit a m <;> cases hit b m <;> cases hit k m <;> rfl] at C; exact C.mono fun e w' ⟨A, c, he, hs, hb⟩ => ⟨A, c, he, hs.top, hb⟩)
  refine CC.mono ?_
  clear CC
  rintro e w34 ⟨A_v25, c_v25, rfl, hs, hb⟩
  have W34 := Lib.hid (W33.out.trans (hb.mono W33.out.size))
  have T_a := Lib.hid (S_a.out.up hb)
  clear S_a
  have S_a := T_a
  clear T_a
  have T_b := Lib.hid (S_b.out.up hb)
  clear S_b
  have S_b := T_b
  clear T_b
  have T_k := Lib.hid (S_k.out.up hb)
  clear S_k
  have S_k := T_k
  clear T_k
  have T_v1 := Lib.hid (S_v1.out.up hb)
  clear S_v1
  have S_v1 := T_v1
  clear T_v1
  have T_v23 := Lib.hid (S_v23.out.up hb)
  clear S_v23
  have S_v23 := T_v23
  clear T_v23
  have S_v25 := Lib.hid hs
  clear hs
  clear hb W33
  go_wp2_with fail
  have CC := (show Calls Try.prog 13 #[.slice A_v23 (rn 0 (zw (fun x y => x && !y) a (rn 0 (zw (fun x y => x || y) b k)))).length c_v23, .slice A_v25 (rn 0 (zw (fun x y => x && !y) a (rn 0 (zw (fun x y => x || y) b k)))).length c_v25] w34 fun e w' => e = .returned (.bool true) ∧ Below w34.heap.size w34 w' from same_all (rn 0 (zw (fun x y => x && !y) a (rn 0 (zw (fun x y => x || y) b k)))) A_v23 A_v25 c_v23 c_v25 w34 S_v23.out S_v25.out)
  refine CC.mono ?_
  clear CC
  rintro e w35 ⟨rfl, hb⟩
  have W35 := Lib.hid (W34.out.trans (hb.mono W34.out.size))
  have T_a := Lib.hid (S_a.out.up hb)
  clear S_a
  have S_a := T_a
  clear T_a
  have T_b := Lib.hid (S_b.out.up hb)
  clear S_b
  have S_b := T_b
  clear T_b
  have T_k := Lib.hid (S_k.out.up hb)
  clear S_k
  have S_k := T_k
  clear T_k
  have T_v1 := Lib.hid (S_v1.out.up hb)
  clear S_v1
  have S_v1 := T_v1
  clear T_v1
  clear hb W34
  go_wp2_with fail
  have CC := (show Calls Try.prog 20 #[.slice A_a a.length c_a, .slice A_a a.length c_a] w35 fun e w' => ∃ A c, e = .returned (.slice A ([] : List Sp).length c) ∧ SL w' (· < w'.heap.size) ([] : List Sp) A c ∧ Below w35.heap.size w35 w' from by have C := minus_all a a A_a A_a c_a c_a w35 ha ha S_a.out S_a.out; rw [show (rn 0 (zw (fun x y => x && !y) a a)) = ([] : List Sp) from zw_nil fun m h => by (try simp only [hit_zw _ _ _ m h]); cases hit a m <;> rfl] at C; exact C.mono fun e w' ⟨A, c, he, hs, hb⟩ => ⟨A, c, he, hs.top, hb⟩)
  refine CC.mono ?_
  clear CC
  rintro e w36 ⟨A_v26, c_v26, rfl, hs, hb⟩
  have W36 := Lib.hid (W35.out.trans (hb.mono W35.out.size))
  have T_a := Lib.hid (S_a.out.up hb)
  clear S_a
  have S_a := T_a
  clear T_a
  have T_b := Lib.hid (S_b.out.up hb)
  clear S_b
  have S_b := T_b
  clear T_b
  have T_k := Lib.hid (S_k.out.up hb)
  clear S_k
  have S_k := T_k
  clear T_k
  have T_v1 := Lib.hid (S_v1.out.up hb)
  clear S_v1
  have S_v1 := T_v1
  clear T_v1
  have S_v26 := Lib.hid hs
  clear hs
  clear hb W35
  go_wp2_with fail
  go_ret
  exact ⟨rfl, W36.out⟩

set_option maxRecDepth 100000 in
theorem algebra_lifted (os : Os) (started : os.Started) (H : Type) (enc : TypeId × Value → H) :
    ReturnsInHanded {} Try.checked os 6 .any (Rows.spansAlgebraSpec.pre6 enc Try.prog Try.f6 Rows.spansAlgebraRow.domain false) (Rows.spansAlgebraSpec.post enc Try.prog Try.f6 false true false false) := by
  refine returnsInHanded_of_change (C := Try.checked) prog_own started (by kernel_rfl) Try.func6
    (ChangeSpec.witness6 (enc := enc) (C := Try.checked) false ⟨#[], #[.slice none 0 0, .slice none 0 0, .slice none 0 0], []⟩ 8 (by kernel_rfl) (by kernel_rfl) (by kernel_rfl) (by kernel_rfl)) ?_
  intro W base args ds gs before hval0 hW _ _
  have hval : ∀ (j : Nat) t v, Try.f6.params[j]? = some t → args[j]? = some v → Value.okWide Try.prog W .any base t v := hval0
  have hW' : DataW.Whole enc Try.prog Try.f6.params.toList Rows.spansAlgebraSpec.vars false W args.toList ds gs before := hW
  obtain ⟨p, q, hA0, _, _, _, _⟩ := hW
  have hA : DataW.TrodAll enc Try.prog W 0 (fun _ => true) true Try.f6.params.toList args.toList ds p := hA0
  rw [Try.params6] at hA hval
  obtain ⟨v0, v1, v2, e0, e1, e2, p0, p1, p2, rfl, rfl, rfl, h0, h1, h2⟩ := trodAll_three hA
  obtain ⟨x0, A0, c0, rfl, hx0⟩ := arg_spans (hval 0 22 v0 rfl rfl) h0
  obtain ⟨x1, A1, c1, rfl, hx1⟩ := arg_spans (hval 1 22 v1 rfl rfl) h1
  obtain ⟨x2, A2, c2, rfl, hx2⟩ := arg_spans (hval 2 22 v2 rfl rfl) h2
  refine (algebra_all x0 x1 x2 A0 c0 A1 c1 A2 c2 W hx0 hx1 hx2).mono fun e W' ⟨he, hb⟩ => ?_
  subst he
  exact ⟨_, rfl, law_post rfl (fun ds hd => by
    match ds, hd with
    | [_, _, _], _ => rfl) (by kernel_rfl) (by
    rw [Try.params6]
    intro t ht
    simp only [List.mem_cons, List.not_mem_nil, or_false, or_self] at ht
    rcases ht with rfl
    · exact p_spans) rfl hW' hb⟩

theorem algebra_holds : Rows.SpansAlgebraSaid :=
  OpenClaim.holds_of_wide 6 Try.f6 rfl rfl rfl rfl rfl rfl rfl ⟨rfl, rfl, rfl, rfl, rfl⟩ rfl rfl rfl rfl rfl (by kernel_rfl) Try.func6 (by kernel_rfl)
    (of_decide_eq_true (by kernel_rfl)) (by unfold Func.isWrapper; first | (rw [if_pos (by decide +kernel)]; kernel_rfl) | (rw [if_neg (by decide +kernel)]; exact ⟨rfl, rfl⟩))
    (fun os started H enc _ => algebra_lifted os started H enc)
end Go.Proofs.Ytofjbplojhlnoaa
