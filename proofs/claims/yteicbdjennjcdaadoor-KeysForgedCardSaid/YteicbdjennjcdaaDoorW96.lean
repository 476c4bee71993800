/- Proved: for every array of 32 bytes, every int, every slice of arrays of 32 bytes that can be read as data, every array of 32 bytes, every signature (an int and two such slices) that can be read as data, in whatever memory and on every schedule, where the program's table of numbers reads as its own text lays it, KeysForged returns true and its arguments read afterwards as before; there is no further condition. -/
import Derived.Test.YteicbdjennjcdaaDoorW36
import Derived.Test.YteicbdjennjcdaaDoorW30
namespace Go.Proofs.YteicbdjennjcdaaDoor
set_option maxRecDepth 100000
open Go.ChangeShapes Go.WideShapes Go.ChangeAt Go.WideElems Go.RowKit

set_option maxRecDepth 100000 in
theorem forged_lifted (os : Os) (started : os.Started) (H : Type) (enc : TypeId × Value → H) :
    ReturnsInHanded {} Tryd.checked os 6 .any (fun w args => (Rows.keysForgedSpec.pre enc Tryd.prog Tryd.f6 [] false w args ∧ laidMetH Tryd.prog lay w) ∧ sizedMet enc Tryd.prog Tryd.f6 (OpenSpec.ofChange Rows.keysForgedSpec) false w args)
      (Rows.keysForgedSpec.post enc Tryd.prog Tryd.f6 false true false false) := by
  refine returnsInHanded_of_change_and (C := Tryd.checked) (X := fun w _ => laidMetH Tryd.prog lay w) (fun _ _ _ hh h => h.of_heap hh) prog_own started (by kernel_rfl) Tryd.func6
    (ChangeSpec.witness_shaped (enc := enc) (C := Tryd.checked) (os := os) (X := fun w _ => laidMetH Tryd.prog lay w) false (World.doorLaid Tryd.prog 14 os) #[.agg (U z32).toArray, .int .i64 0, .slice none 0 0, .agg (U z32).toArray, .agg #[.int .i64 0, .slice none 0 0, .slice none 0 0]] 8 rfl (World.shaped_of_RefB (by kernel_rfl) (by kernel_rfl)) (by kernel_rfl) (by kernel_rfl) (by kernel_rfl) (door_met os _)) ?_
  intro W base args ds gs before hval0 hW _ _ hL _
  have hval : ∀ (j : Nat) t v, Tryd.f6.params[j]? = some t → args[j]? = some v → Value.okWide Tryd.prog W .any base t v := hval0
  have hW' := hW
  obtain ⟨p, q, hA0, _, _, _, _⟩ := hW
  have hA : DataW.TrodAll enc Tryd.prog W 0 (fun _ => true) true Tryd.f6.params.toList args.toList ds p := hA0
  rw [Tryd.params6] at hA hval
  obtain ⟨v0, v1, v2, v3, v4, e0, e1, e2, e3, e4, p0, p1, p2, p3, p4, rfl, rfl, rfl, h0, h1, h2, h3, h4⟩ := trodAll_five hA
  obtain ⟨d0, hd0, rfl⟩ := arg_digest (hval 0 23 v0 rfl rfl) h0
  obtain ⟨b1, rfl, rfl, rfl, wb1⟩ := open_int Tryd.underlying3 (hval 1 3 v1 rfl rfl) h1
  have hb1 : -9223372036854775808 ≤ b1 ∧ b1 ≤ 9223372036854775807 := by
    simp [Lit.wf, IntKind.min, IntKind.max, IntKind.signed, IntKind.bits] at wb1
    omega
  obtain ⟨x2, A2, c2, rfl, hx2⟩ := arg_digests (hval 2 26 v2 rfl rfl) h2
  obtain ⟨d3, hd3, rfl⟩ := arg_digest (hval 3 23 v3 rfl rfl) h3
  obtain ⟨s4, rfl, hok4, hsi4⟩ := arg_leaf (hval 4 28 v4 rfl rfl) h4
  refine (forged_all d0 b1 x2 A2 c2 d3 s4 W hb1.1 hb1.2 hd0 hx2 hd3 hsi4 hok4 (of_laid hL)).mono fun e W' ⟨he, hb⟩ => ?_
  subst he
  exact ⟨_, rfl, law_post rfl (fun ds hd => by
    match ds, hd with
    | [_, _, _, _, _], _ => rfl) (by kernel_rfl) (by
    rw [Tryd.params6]
    intro t ht
    simp only [List.mem_cons, List.not_mem_nil, or_false] at ht
    rcases ht with rfl | rfl | rfl | rfl | rfl
    · exact p_digest
    · exact p_int
    · exact p_digests
    · exact p_digest
    · exact p_leaf) rfl hW' hb⟩

theorem forged_row : Rows.KeysForgedSaid :=
  OpenClaim.holds_of_wide 6 Tryd.f6 rfl rfl rfl rfl rfl rfl rfl ⟨rfl, rfl, rfl, rfl, rfl⟩ rfl rfl rfl rfl rfl (by kernel_rfl) Tryd.func6 (by kernel_rfl)
    (of_decide_eq_true (by kernel_rfl)) (by unfold Func.isWrapper; first | (rw [if_pos (by decide +kernel)]; kernel_rfl) | (rw [if_neg (by decide +kernel)]; exact ⟨rfl, rfl⟩))
    (fun os started H enc _ => forged_lifted os started H enc)

theorem forged_card : Rows.KeysForgedCardSaid :=
  Claim7.holds_tied_plain_at .later [] [.data] true Rows.keysForgedCard.stood.harness false
    forged_row (fun _ h => by cases h) (by kernel_rfl) (fun _ h => by cases h) keysForged_row_tie rfl ⟨rfl, rfl⟩ (by kernel_rfl) rfl
    (fun f fn hf hfn => by
      obtain rfl : f = 6 := Option.some.inj ((show Tryd.prog.funcNamed Rows.keysForgedRow.func = some 6 by kernel_rfl).symm.trans hf) |>.symm
      obtain rfl : fn = Tryd.f6 := (Option.some.inj (Tryd.func6.symm.trans hfn)).symm
      exact ⟨by kernel_rfl, fun j t ht => by
        rw [Tryd.params6] at ht
        have hm : t ∈ [23, 3, 26, 23, 28] := by simpa using Array.mem_of_getElem? ht
        have hall : ([23, 3, 26, 23, 28].all fun u => !Tryd.prog.wantsStandIn u) = true := by kernel_rfl
        exact (show Tryd.prog.wantsStandIn t = false by simpa using List.all_eq_true.1 hall t hm)⟩)
    (by kernel_rfl)
end Go.Proofs.YteicbdjennjcdaaDoor
