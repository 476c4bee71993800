/- Proved: for every array of 32 bytes, every array of 32 bytes, every slice of arrays of 32 bytes that can be read as data, every slice of arrays of 32 bytes that can be read as data, in whatever memory and on every schedule, where the program's table of numbers reads as its own text lays it, ChainsOnly returns true and its arguments read afterwards as before; there is no further condition. -/
import Derived.Test.YtllkkafajchioaaDoorZD
import Derived.Test.YtllkkafajchioaaDoorXOD
namespace Go.Proofs.YtllkkafajchioaaDoor
open Go.ChangeShapes Go.WideShapes Go.ChangeAt Go.WideElems Go.RowKit

set_option maxRecDepth 100000 in
theorem only_lifted (os : Os) (started : os.Started) (H : Type) (enc : TypeId × Value → H) :
    ReturnsInHanded {} Tryd.checked os 8 .any (fun w args => (Rows.chainsOnlySpec.pre enc Tryd.prog Tryd.f8 [] false w args ∧ laidMetH Tryd.prog lay w) ∧ sizedMet enc Tryd.prog Tryd.f8 (OpenSpec.ofChange Rows.chainsOnlySpec) false w args)
      (Rows.chainsOnlySpec.post enc Tryd.prog Tryd.f8 false true false false) := by
  refine returnsInHanded_of_change_and (C := Tryd.checked) (X := fun w _ => laidMetH Tryd.prog lay w) (fun _ _ _ hh h => h.of_heap hh) prog_own started (by kernel_rfl) Tryd.func8
    (ChangeSpec.witness_shaped (enc := enc) (C := Tryd.checked) (os := os) (X := fun w _ => laidMetH Tryd.prog lay w) false (World.doorLaid Tryd.prog 14 os) #[.agg (U z32).toArray, .agg (U z32).toArray, .slice none 0 0, .slice none 0 0] 8 rfl (World.shaped_of_RefB (by kernel_rfl) (by kernel_rfl)) (by kernel_rfl) (by kernel_rfl) (by kernel_rfl) (door_met os _)) ?_
  intro W base args ds gs before hval0 hW _ _ hL _
  have hval : ∀ (j : Nat) t v, Tryd.f8.params[j]? = some t → args[j]? = some v → Value.okWide Tryd.prog W .any base t v := hval0
  have hW' := hW
  obtain ⟨p, q, hA0, _, _, _, _⟩ := hW
  have hA : DataW.TrodAll enc Tryd.prog W 0 (fun _ => true) true Tryd.f8.params.toList args.toList ds p := hA0
  rw [Tryd.params8] at hA hval
  obtain ⟨v0, v1, v2, v3, e0, e1, e2, e3, p0, p1, p2, p3, rfl, rfl, rfl, h0, h1, h2, h3⟩ := trodAll_four hA
  obtain ⟨d0, hd0, rfl⟩ := arg_digest (hval 0 23 v0 rfl rfl) h0
  obtain ⟨d1, hd1, rfl⟩ := arg_digest (hval 1 23 v1 rfl rfl) h1
  obtain ⟨x2, A2, c2, rfl, hx2⟩ := arg_digests (hval 2 24 v2 rfl rfl) h2
  obtain ⟨x3, A3, c3, rfl, hx3⟩ := arg_digests (hval 3 24 v3 rfl rfl) h3
  refine (only_all d0 d1 x2 A2 c2 x3 A3 c3 W hd0 hd1 hx2 hx3 (of_laid hL)).mono fun e W' ⟨he, hb⟩ => ?_
  subst he
  exact ⟨_, rfl, law_post rfl (fun ds hd => by
    match ds, hd with
    | [_, _, _, _], _ => rfl) (by kernel_rfl) (by
    rw [Tryd.params8]
    intro t ht
    simp only [List.mem_cons, List.not_mem_nil, or_false] at ht
    rcases ht with rfl | rfl | rfl | rfl
    · exact p_digest
    · exact p_digest
    · exact p_digests
    · exact p_digests) rfl hW' hb⟩

theorem only_row : Rows.ChainsOnlySaid :=
  OpenClaim.holds_of_wide 8 Tryd.f8 rfl rfl rfl rfl rfl rfl rfl ⟨rfl, rfl, rfl, rfl, rfl⟩ rfl rfl rfl rfl rfl (by kernel_rfl) Tryd.func8 (by kernel_rfl)
    (of_decide_eq_true (by kernel_rfl)) (by unfold Func.isWrapper; first | (rw [if_pos (by decide +kernel)]; kernel_rfl) | (rw [if_neg (by decide +kernel)]; exact ⟨rfl, rfl⟩))
    (fun os started H enc _ => only_lifted os started H enc)

theorem only_card : Rows.ChainsOnlyCardSaid :=
  Claim7.holds_tied_plain_at .later [] [.data] true Rows.chainsOnlyCard.stood.harness false
    only_row (fun _ h => by cases h) (by kernel_rfl) (fun _ h => by cases h) chainsOnly_row_tie rfl ⟨rfl, rfl⟩ (by kernel_rfl) rfl
    (fun f fn hf hfn => by
      obtain rfl : f = 8 := Option.some.inj ((show Tryd.prog.funcNamed Rows.chainsOnlyRow.func = some 8 by kernel_rfl).symm.trans hf) |>.symm
      obtain rfl : fn = Tryd.f8 := (Option.some.inj (Tryd.func8.symm.trans hfn)).symm
      exact ⟨by kernel_rfl, fun j t ht => by
        rw [Tryd.params8] at ht
        have hm : t ∈ [23, 23, 24, 24] := by simpa using Array.mem_of_getElem? ht
        have hall : ([23, 23, 24, 24].all fun u => !Tryd.prog.wantsStandIn u) = true := by kernel_rfl
        exact (show Tryd.prog.wantsStandIn t = false by simpa using List.all_eq_true.1 hall t hm)⟩)
    (by kernel_rfl)
end Go.Proofs.YtllkkafajchioaaDoor
