/- Proved: for every two slices of spans that can be read as data, in whatever memory and on every schedule, SpansSetsSpec returns true and its arguments read afterwards as before; there is no further condition. -/
import Derived.Test.YtofjbplojhlnoaaSP
namespace Go.Proofs.Ytofjbplojhlnoaa
open Go.ChangeShapes Go.WideShapes Go.ChangeAt Go.RowKit

set_option maxRecDepth 100000 in
set_option maxHeartbeats 8000000 in
theorem sets_all (a : List Sp) (b : List Sp) (A_a : Option Addr) (c_a : Nat) (A_b : Option Addr) (c_b : Nat) (w : World) (sa : SL w (· < w.heap.size) a A_a c_a) (sb : SL w (· < w.heap.size) b A_b c_b) :
    Calls Try.prog 4 #[.slice A_a a.length c_a, .slice A_b b.length c_b] w fun e w' => e = .returned (.bool true) ∧ Below w.heap.size w w' := by
  have S_a := Lib.hid sa
  have S_b := Lib.hid sb
  clear sa sb
  have W0 := Lib.hid (Below.refl w.heap.size w)
  go_enter Try.func4, Try.ntmps4
  go_wp2_with fail
  have CC := sane_all w
  refine CC.mono ?_
  clear CC
  rintro e w1 ⟨rfl, hb⟩
  have W1 := Lib.hid (W0.out.trans (hb.mono W0.out.size))
  have T_a := Lib.hid (S_a.out.up hb)
  clear S_a
  have S_a := T_a
  clear T_a
  have T_b := Lib.hid (S_b.out.up hb)
  clear S_b
  have S_b := T_b
  clear T_b
  clear hb W0
  by_cases ha' : a.length ≤ 40
  case neg =>
    go_wp2_with fail
    refine (few_no a A_a c_a ha' _).mono ?_
    rintro e w' ⟨rfl, hw'⟩
    rw [hw']
    clear hw' w'
    go_wp2_with fail
    go_ret
    exact ⟨rfl, W1.out⟩
  by_cases hb' : b.length ≤ 40
  case neg =>
    go_wp2_with fail
    refine (few_yes a A_a c_a ha' _).mono ?_
    rintro e w' ⟨rfl, hw'⟩
    rw [hw']
    clear hw' w'
    go_wp2_with fail
    refine (few_no b A_b c_b hb' _).mono ?_
    rintro e w' ⟨rfl, hw'⟩
    rw [hw']
    clear hw' w'
    go_wp2_with fail
    go_ret
    exact ⟨rfl, W1.out⟩
  go_wp2_with fail
  refine (few_yes a A_a c_a ha' _).mono ?_
  rintro e w' ⟨rfl, hw'⟩
  rw [hw']
  clear hw' w'
  go_wp2_with fail
  refine (few_yes b A_b c_b hb' _).mono ?_
  rintro e w' ⟨rfl, hw'⟩
  rw [hw']
  clear hw' w'
  have ha : a.length ≤ 1000000 := by omega
  have hb : b.length ≤ 1000000 := by omega
  go_wp2_with fail
  have CC := (show Calls Try.prog 16 #[.slice A_a a.length c_a, .slice A_b b.length c_b] w1 fun e w' => ∃ A c, e = .returned (.slice A (rn 0 (zw (fun x y => x || y) a b)).length c) ∧ SL w' (· < w'.heap.size) (rn 0 (zw (fun x y => x || y) a b)) A c ∧ Below w1.heap.size w1 w' from by have C := union_all a b A_a A_b c_a c_b w1 ha hb S_a.out S_b.out; exact C.mono fun e w' ⟨A, c, he, hs, hb⟩ => ⟨A, c, he, hs.top, hb⟩)
  refine CC.mono ?_
  clear CC
  rintro e w2 ⟨A_v1, c_v1, rfl, hs, hb⟩
  have W2 := Lib.hid (W1.out.trans (hb.mono W1.out.size))
  have T_a := Lib.hid (S_a.out.up hb)
  clear S_a
  have S_a := T_a
  clear T_a
  have T_b := Lib.hid (S_b.out.up hb)
  clear S_b
  have S_b := T_b
  clear T_b
  have S_v1 := Lib.hid hs
  clear hs
  clear hb W1
  go_wp2_with fail
  have CC := (show Calls Try.prog 17 #[.slice A_a a.length c_a, .slice A_b b.length c_b] w2 fun e w' => ∃ A c, e = .returned (.slice A (rn 0 (zw (fun x y => x || y) a b)).length c) ∧ SL w' (· < w'.heap.size) (rn 0 (zw (fun x y => x || y) a b)) A c ∧ Below w2.heap.size w2 w' from by have C := runion_all a b A_a A_b c_a c_b w2 S_a.out S_b.out; exact C.mono fun e w' ⟨A, c, he, hs, hb⟩ => ⟨A, c, he, hs.top, hb⟩)
  refine CC.mono ?_
  clear CC
  rintro e w3 ⟨A_v2, c_v2, rfl, hs, hb⟩
  have W3 := Lib.hid (W2.out.trans (hb.mono W2.out.size))
  have T_a := Lib.hid (S_a.out.up hb)
  clear S_a
  have S_a := T_a
  clear T_a
  have T_b := Lib.hid (S_b.out.up hb)
  clear S_b
  have S_b := T_b
  clear T_b
  have T_v1 := Lib.hid (S_v1.out.up hb)
  clear S_v1
  have S_v1 := T_v1
  clear T_v1
  have S_v2 := Lib.hid hs
  clear hs
  clear hb W2
  go_wp2_with fail
  have CC := (show Calls Try.prog 13 #[.slice A_v1 (rn 0 (zw (fun x y => x || y) a b)).length c_v1, .slice A_v2 (rn 0 (zw (fun x y => x || y) a b)).length c_v2] w3 fun e w' => e = .returned (.bool true) ∧ Below w3.heap.size w3 w' from same_all (rn 0 (zw (fun x y => x || y) a b)) A_v1 A_v2 c_v1 c_v2 w3 S_v1.out S_v2.out)
  refine CC.mono ?_
  clear CC
  rintro e w4 ⟨rfl, hb⟩
  have W4 := Lib.hid (W3.out.trans (hb.mono W3.out.size))
  have T_a := Lib.hid (S_a.out.up hb)
  clear S_a
  have S_a := T_a
  clear T_a
  have T_b := Lib.hid (S_b.out.up hb)
  clear S_b
  have S_b := T_b
  clear T_b
  clear hb W3
  go_wp2_with fail
  have CC := (show Calls Try.prog 18 #[.slice A_a a.length c_a, .slice A_b b.length c_b] w4 fun e w' => ∃ A c, e = .returned (.slice A (rn 0 (zw (fun x y => x && y) a b)).length c) ∧ SL w' (· < w'.heap.size) (rn 0 (zw (fun x y => x && y) a b)) A c ∧ Below w4.heap.size w4 w' from by have C := meet_all a b A_a A_b c_a c_b w4 ha hb S_a.out S_b.out; exact C.mono fun e w' ⟨A, c, he, hs, hb⟩ => ⟨A, c, he, hs.top, hb⟩)
  refine CC.mono ?_
  clear CC
  rintro e w5 ⟨A_v3, c_v3, rfl, hs, hb⟩
  have W5 := Lib.hid (W4.out.trans (hb.mono W4.out.size))
  have T_a := Lib.hid (S_a.out.up hb)
  clear S_a
  have S_a := T_a
  clear T_a
  have T_b := Lib.hid (S_b.out.up hb)
  clear S_b
  have S_b := T_b
  clear T_b
  have S_v3 := Lib.hid hs
  clear hs
  clear hb W4
  go_wp2_with fail
  have CC := (show Calls Try.prog 19 #[.slice A_a a.length c_a, .slice A_b b.length c_b] w5 fun e w' => ∃ A c, e = .returned (.slice A (rn 0 (zw (fun x y => x && y) a b)).length c) ∧ SL w' (· < w'.heap.size) (rn 0 (zw (fun x y => x && y) a b)) A c ∧ Below w5.heap.size w5 w' from by have C := rmeet_all a b A_a A_b c_a c_b w5 S_a.out S_b.out; exact C.mono fun e w' ⟨A, c, he, hs, hb⟩ => ⟨A, c, he, hs.top, hb⟩)
  refine CC.mono ?_
  clear CC
  rintro e w6 ⟨A_v4, c_v4, rfl, hs, hb⟩
  have W6 := Lib.hid (W5.out.trans (hb.mono W5.out.size))
  have T_a := Lib.hid (S_a.out.up hb)
  clear S_a
  have S_a := T_a
  clear T_a
  have T_b := Lib.hid (S_b.out.up hb)
  clear S_b
  have S_b := T_b
  clear T_b
  have T_v3 := Lib.hid (S_v3.out.up hb)
  clear S_v3
  have S_v3 := T_v3
  clear T_v3
  have S_v4 := Lib.hid hs
  clear hs
  clear hb W5
  go_wp2_with fail
  have CC := (show Calls Try.prog 13 #[.slice A_v3 (rn 0 (zw (fun x y => x && y) a b)).length c_v3, .slice A_v4 (rn 0 (zw (fun x y => x && y) a b)).length c_v4] w6 fun e w' => e = .returned (.bool true) ∧ Below w6.heap.size w6 w' from same_all (rn 0 (zw (fun x y => x && y) a b)) A_v3 A_v4 c_v3 c_v4 w6 S_v3.out S_v4.out)
  refine CC.mono ?_
  clear CC
  rintro e w7 ⟨rfl, hb⟩
  have W7 := Lib.hid (W6.out.trans (hb.mono W6.out.size))
  have T_a := Lib.hid (S_a.out.up hb)
  clear S_a
  have S_a := T_a
  clear T_a
  have T_b := Lib.hid (S_b.out.up hb)
  clear S_b
  have S_b := T_b
  clear T_b
  clear hb W6
  go_wp2_with fail
  have CC := (show Calls Try.prog 20 #[.slice A_a a.length c_a, .slice A_b b.length c_b] w7 fun e w' => ∃ A c, e = .returned (.slice A (rn 0 (zw (fun x y => x && !y) a b)).length c) ∧ SL w' (· < w'.heap.size) (rn 0 (zw (fun x y => x && !y) a b)) A c ∧ Below w7.heap.size w7 w' from by have C := minus_all a b A_a A_b c_a c_b w7 ha hb S_a.out S_b.out; exact C.mono fun e w' ⟨A, c, he, hs, hb⟩ => ⟨A, c, he, hs.top, hb⟩)
  refine CC.mono ?_
  clear CC
  rintro e w8 ⟨A_v5, c_v5, rfl, hs, hb⟩
  have W8 := Lib.hid (W7.out.trans (hb.mono W7.out.size))
  have T_a := Lib.hid (S_a.out.up hb)
  clear S_a
  have S_a := T_a
  clear T_a
  have T_b := Lib.hid (S_b.out.up hb)
  clear S_b
  have S_b := T_b
  clear T_b
  have S_v5 := Lib.hid hs
  clear hs
  clear hb W7
  go_wp2_with fail
  have CC := (show Calls Try.prog 21 #[.slice A_a a.length c_a, .slice A_b b.length c_b] w8 fun e w' => ∃ A c, e = .returned (.slice A (rn 0 (zw (fun x y => x && !y) a b)).length c) ∧ SL w' (· < w'.heap.size) (rn 0 (zw (fun x y => x && !y) a b)) A c ∧ Below w8.heap.size w8 w' from by have C := rminus_all a b A_a A_b c_a c_b w8 S_a.out S_b.out; exact C.mono fun e w' ⟨A, c, he, hs, hb⟩ => ⟨A, c, he, hs.top, hb⟩)
  refine CC.mono ?_
  clear CC
  rintro e w9 ⟨A_v6, c_v6, rfl, hs, hb⟩
  have W9 := Lib.hid (W8.out.trans (hb.mono W8.out.size))
  have T_a := Lib.hid (S_a.out.up hb)
  clear S_a
  have S_a := T_a
  clear T_a
  have T_b := Lib.hid (S_b.out.up hb)
  clear S_b
  have S_b := T_b
  clear T_b
  have T_v5 := Lib.hid (S_v5.out.up hb)
  clear S_v5
  have S_v5 := T_v5
  clear T_v5
  have S_v6 := Lib.hid hs
  clear hs
  clear hb W8
  go_wp2_with fail
  have CC := (show Calls Try.prog 13 #[.slice A_v5 (rn 0 (zw (fun x y => x && !y) a b)).length c_v5, .slice A_v6 (rn 0 (zw (fun x y => x && !y) a b)).length c_v6] w9 fun e w' => e = .returned (.bool true) ∧ Below w9.heap.size w9 w' from same_all (rn 0 (zw (fun x y => x && !y) a b)) A_v5 A_v6 c_v5 c_v6 w9 S_v5.out S_v6.out)
  refine CC.mono ?_
  clear CC
  rintro e w10 ⟨rfl, hb⟩
  have W10 := Lib.hid (W9.out.trans (hb.mono W9.out.size))
  have T_a := Lib.hid (S_a.out.up hb)
  clear S_a
  have S_a := T_a
  clear T_a
  have T_b := Lib.hid (S_b.out.up hb)
  clear S_b
  have S_b := T_b
  clear T_b
  clear hb W9
  go_wp2_with fail
  go_ret
  exact ⟨rfl, W10.out⟩

set_option maxRecDepth 100000 in
theorem sets_lifted (os : Os) (started : os.Started) (H : Type) (enc : TypeId × Value → H) :
    ReturnsInHanded {} Try.checked os 4 .any (Rows.spansSetsSpecSpec.pre6 enc Try.prog Try.f4 Rows.spansSetsSpecRow.domain false) (Rows.spansSetsSpecSpec.post enc Try.prog Try.f4 false true false false) := by
  refine returnsInHanded_of_change (C := Try.checked) prog_own started (by kernel_rfl) Try.func4
    (ChangeSpec.witness6 (enc := enc) (C := Try.checked) false ⟨#[], #[.slice none 0 0, .slice none 0 0], []⟩ 8 (by kernel_rfl) (by kernel_rfl) (by kernel_rfl) (by kernel_rfl)) ?_
  intro W base args ds gs before hval0 hW _ _
  have hval : ∀ (j : Nat) t v, Try.f4.params[j]? = some t → args[j]? = some v → Value.okWide Try.prog W .any base t v := hval0
  have hW' : DataW.Whole enc Try.prog Try.f4.params.toList Rows.spansSetsSpecSpec.vars false W args.toList ds gs before := hW
  obtain ⟨p, q, hA0, _, _, _, _⟩ := hW
  have hA : DataW.TrodAll enc Try.prog W 0 (fun _ => true) true Try.f4.params.toList args.toList ds p := hA0
  rw [Try.params4] at hA hval
  obtain ⟨v0, v1, e0, e1, p0, p1, rfl, rfl, rfl, h0, h1⟩ := trodAll_two hA
  obtain ⟨x0, A0, c0, rfl, hx0⟩ := arg_spans (hval 0 22 v0 rfl rfl) h0
  obtain ⟨x1, A1, c1, rfl, hx1⟩ := arg_spans (hval 1 22 v1 rfl rfl) h1
  refine (sets_all x0 x1 A0 c0 A1 c1 W hx0 hx1).mono fun e W' ⟨he, hb⟩ => ?_
  subst he
  exact ⟨_, rfl, law_post rfl (fun ds hd => by
    match ds, hd with
    | [_, _], _ => rfl) (by kernel_rfl) (by
    rw [Try.params4]
    intro t ht
    simp only [List.mem_cons, List.not_mem_nil, or_false, or_self] at ht
    rcases ht with rfl
    · exact p_spans) rfl hW' hb⟩

theorem sets_holds : Rows.SpansSetsSpecSaid :=
  OpenClaim.holds_of_wide 4 Try.f4 rfl rfl rfl rfl rfl rfl rfl ⟨rfl, rfl, rfl, rfl, rfl⟩ rfl rfl rfl rfl rfl (by kernel_rfl) Try.func4 (by kernel_rfl)
    (of_decide_eq_true (by kernel_rfl)) (by unfold Func.isWrapper; first | (rw [if_pos (by decide +kernel)]; kernel_rfl) | (rw [if_neg (by decide +kernel)]; exact ⟨rfl, rfl⟩))
    (fun os started H enc _ => sets_lifted os started H enc)
end Go.Proofs.Ytofjbplojhlnoaa
