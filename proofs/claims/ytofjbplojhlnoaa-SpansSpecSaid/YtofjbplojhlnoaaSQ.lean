/- Proved: for every slice of spans that can be read as data, in whatever memory and on every schedule, SpansSpec returns true and its arguments read afterwards as before; there is no further condition. -/
import Derived.Test.YtofjbplojhlnoaaSP
namespace Go.Proofs.Ytofjbplojhlnoaa
open Go.ChangeShapes Go.WideShapes Go.ChangeAt Go.RowKit

set_option maxRecDepth 100000 in
set_option maxHeartbeats 8000000 in
theorem spec_all (L : List Sp) (A_L : Option Addr) (c_L : Nat) (w : World) (sL : SL w (· < w.heap.size) L A_L c_L) :
    Calls Try.prog 3 #[.slice A_L L.length c_L] w fun e w' => e = .returned (.bool true) ∧ Below w.heap.size w w' := by
  have S_L := Lib.hid sL
  clear sL
  have W0 := Lib.hid (Below.refl w.heap.size w)
  go_enter Try.func3, Try.ntmps3
  go_wp2_with fail
  have CC := sane_all w
  refine CC.mono ?_
  clear CC
  rintro e w1 ⟨rfl, hb⟩
  have W1 := Lib.hid (W0.out.trans (hb.mono W0.out.size))
  have T_L := Lib.hid (S_L.out.up hb)
  clear S_L
  have S_L := T_L
  clear T_L
  clear hb W0
  by_cases hL' : L.length ≤ 40
  case neg =>
    go_wp2_with fail
    refine (few_no L A_L c_L hL' _).mono ?_
    rintro e w' ⟨rfl, hw'⟩
    rw [hw']
    clear hw' w'
    go_wp2_with fail
    go_ret
    exact ⟨rfl, W1.out⟩
  go_wp2_with fail
  refine (few_yes L A_L c_L hL' _).mono ?_
  rintro e w' ⟨rfl, hw'⟩
  rw [hw']
  clear hw' w'
  have hL : L.length ≤ 1000000 := by omega
  go_wp2_with fail
  have CC := (show Calls Try.prog 11 #[.slice A_L L.length c_L] w1 fun e w' => e = .returned (.int .i64 (chk L)) ∧ Below w1.heap.size w1 w' from check_all L A_L c_L w1 S_L.out)
  refine CC.mono ?_
  clear CC
  rintro e w2 ⟨rfl, hb⟩
  have W2 := Lib.hid (W1.out.trans (hb.mono W1.out.size))
  have T_L := Lib.hid (S_L.out.up hb)
  clear S_L
  have S_L := T_L
  clear T_L
  clear hb W1
  go_wp2_with fail
  have CC := (show Calls Try.prog 12 #[.slice A_L L.length c_L] w2 fun e w' => e = .returned (.int .i64 (chk L)) ∧ Below w2.heap.size w2 w' from rcheck_all L A_L c_L w2 S_L.out)
  refine CC.mono ?_
  clear CC
  rintro e w3 ⟨rfl, hb⟩
  have W3 := Lib.hid (W2.out.trans (hb.mono W2.out.size))
  have T_L := Lib.hid (S_L.out.up hb)
  clear S_L
  have S_L := T_L
  clear T_L
  clear hb W2
  go_wp2_with fail
  have CC := (show Calls Try.prog 14 #[.slice A_L L.length c_L] w3 fun e w' => ∃ A c, e = .returned (.slice A (nm L).length c) ∧ SL w' (· < w'.heap.size) (nm L) A c ∧ Below w3.heap.size w3 w' from by have C := normal_all L A_L c_L w3 hL S_L.out; exact C.mono fun e w' ⟨A, c, he, hs, hb⟩ => ⟨A, c, he, hs.top, hb⟩)
  refine CC.mono ?_
  clear CC
  rintro e w4 ⟨A_v1, c_v1, rfl, hs, hb⟩
  have W4 := Lib.hid (W3.out.trans (hb.mono W3.out.size))
  have T_L := Lib.hid (S_L.out.up hb)
  clear S_L
  have S_L := T_L
  clear T_L
  have S_v1 := Lib.hid hs
  clear hs
  clear hb W3
  go_wp2_with fail
  have CC := (show Calls Try.prog 15 #[.slice A_L L.length c_L] w4 fun e w' => ∃ A c, e = .returned (.slice A (nm L).length c) ∧ SL w' (· < w'.heap.size) (nm L) A c ∧ Below w4.heap.size w4 w' from by have C := rnormal_all L A_L c_L w4 S_L.out; exact C.mono fun e w' ⟨A, c, he, hs, hb⟩ => ⟨A, c, he, hs.top, hb⟩)
  refine CC.mono ?_
  clear CC
  rintro e w5 ⟨A_v2, c_v2, rfl, hs, hb⟩
  have W5 := Lib.hid (W4.out.trans (hb.mono W4.out.size))
  have T_L := Lib.hid (S_L.out.up hb)
  clear S_L
  have S_L := T_L
  clear T_L
  have T_v1 := Lib.hid (S_v1.out.up hb)
  clear S_v1
  have S_v1 := T_v1
  clear T_v1
  have S_v2 := Lib.hid hs
  clear hs
  clear hb W4
  go_wp2_with fail
  have CC := (show Calls Try.prog 13 #[.slice A_v1 (nm L).length c_v1, .slice A_v2 (nm L).length c_v2] w5 fun e w' => e = .returned (.bool true) ∧ Below w5.heap.size w5 w' from same_all (nm L) A_v1 A_v2 c_v1 c_v2 w5 S_v1.out S_v2.out)
  refine CC.mono ?_
  clear CC
  rintro e w6 ⟨rfl, hb⟩
  have W6 := Lib.hid (W5.out.trans (hb.mono W5.out.size))
  have T_L := Lib.hid (S_L.out.up hb)
  clear S_L
  have S_L := T_L
  clear T_L
  have T_v1 := Lib.hid (S_v1.out.up hb)
  clear S_v1
  have S_v1 := T_v1
  clear T_v1
  have T_v2 := Lib.hid (S_v2.out.up hb)
  clear S_v2
  have S_v2 := T_v2
  clear T_v2
  clear hb W5
  go_wp2_with fail
  go_ret
  exact ⟨rfl, W6.out⟩

set_option maxRecDepth 100000 in
theorem spec_lifted (os : Os) (started : os.Started) (H : Type) (enc : TypeId × Value → H) :
    ReturnsInHanded {} Try.checked os 3 .any (Rows.spansSpecSpec.pre6 enc Try.prog Try.f3 Rows.spansSpecRow.domain false) (Rows.spansSpecSpec.post enc Try.prog Try.f3 false true false false) := by
  refine returnsInHanded_of_change (C := Try.checked) prog_own started (by kernel_rfl) Try.func3
    (ChangeSpec.witness6 (enc := enc) (C := Try.checked) false ⟨#[], #[.slice none 0 0], []⟩ 8 (by kernel_rfl) (by kernel_rfl) (by kernel_rfl) (by kernel_rfl)) ?_
  intro W base args ds gs before hval0 hW _ _
  have hval : ∀ (j : Nat) t v, Try.f3.params[j]? = some t → args[j]? = some v → Value.okWide Try.prog W .any base t v := hval0
  have hW' : DataW.Whole enc Try.prog Try.f3.params.toList Rows.spansSpecSpec.vars false W args.toList ds gs before := hW
  obtain ⟨p, q, hA0, _, _, _, _⟩ := hW
  have hA : DataW.TrodAll enc Try.prog W 0 (fun _ => true) true Try.f3.params.toList args.toList ds p := hA0
  rw [Try.params3] at hA hval
  obtain ⟨v0, e0, rfl, rfl, h0⟩ := trodAll_one hA
  obtain ⟨x0, A0, c0, rfl, hx0⟩ := arg_spans (hval 0 22 v0 rfl rfl) h0
  refine (spec_all x0 A0 c0 W hx0).mono fun e W' ⟨he, hb⟩ => ?_
  subst he
  exact ⟨_, rfl, law_post rfl (fun ds hd => by
    match ds, hd with
    | [_], _ => rfl) (by kernel_rfl) (by
    rw [Try.params3]
    intro t ht
    simp only [List.mem_cons, List.not_mem_nil, or_false] at ht
    obtain rfl := ht
    exact p_spans) rfl hW' hb⟩

theorem spec_holds : Rows.SpansSpecSaid :=
  OpenClaim.holds_of_wide 3 Try.f3 rfl rfl rfl rfl rfl rfl rfl ⟨rfl, rfl, rfl, rfl, rfl⟩ rfl rfl rfl rfl rfl (by kernel_rfl) Try.func3 (by kernel_rfl)
    (of_decide_eq_true (by kernel_rfl)) (by unfold Func.isWrapper; first | (rw [if_pos (by decide +kernel)]; kernel_rfl) | (rw [if_neg (by decide +kernel)]; exact ⟨rfl, rfl⟩))
    (fun os started H enc _ => spec_lifted os started H enc)
end Go.Proofs.Ytofjbplojhlnoaa
