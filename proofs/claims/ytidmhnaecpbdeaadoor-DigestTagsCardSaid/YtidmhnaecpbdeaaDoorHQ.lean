/- Proved: for every tag and every slice of bytes that can be read as data, in whatever memory and on every schedule, where the program's table of numbers reads as its own text lays it, DigestTags returns true and its arguments read afterwards as before; there is no further condition. -/
import Derived.Test.YtidmhnaecpbdeaaDoorHP
namespace Go.Proofs.YtidmhnaecpbdeaaDoor
open Go.ChangeShapes Go.WideShapes Go.ChangeAt Go.WideElems Go.RowKit

set_option maxRecDepth 100000 in
set_option maxHeartbeats 3200000 in
theorem tags_all (s : ByteArray) (l : List UInt8) (A : Option Addr) (cap : Nat) (w : World) (hl : Byt w (· < w.heap.size) l A cap) (hk : KR w Kt) :
    Calls Tryd.prog 5 #[.string s, .slice A l.length cap] w fun e w' => e = .returned (.bool true) ∧ Below w.heap.size w w' := by
  have HL := Lib.hid hl
  have HK := Lib.hid hk
  have hlt0 := hk.lt
  have hconv := fun (w : World) (s : ByteArray) => Lib.run_convert_string_bytes (P := Tryd.prog) w 9 22 5 s Tryd.underlying9 Tryd.underlying22 Tryd.underlying5
  have S0 := Lib.hid (sane_all w hk)
  clear hl hk
  by_cases hs : 600 < s.size
  · clear hconv
    go_enter Tryd.func5, Tryd.ntmps5
    go_wp2_with fail
    refine S0.out.mono ?_
    rintro e w1 ⟨rfl, hb⟩
    go_wp2_with fail
    go_ret
    exact ⟨rfl, hb⟩
  by_cases hn : 600 < l.length
  · clear hconv
    go_enter Tryd.func5, Tryd.ntmps5
    go_wp2_with fail
    refine S0.out.mono ?_
    rintro e w1 ⟨rfl, hb⟩
    go_wp2_with fail
    go_ret
    exact ⟨rfl, hb⟩
  go_enter Tryd.func5, Tryd.ntmps5
  go_wp2_with fail
  refine S0.out.mono ?_
  rintro e w1 ⟨rfl, hb1⟩
  have hz1 := hb1.size
  have hsl : s.data.toList.length = s.size := by simp
  have hbc := below_conv w1 s
  have hzc := Lib.bytesWorld_size w1 5 s
  have C := sum_all s.data.toList _ _ (Lib.bytesWorld w1 5 s) ((byt_conv w1 s (by simp only [maxLen]; omega)).keep fun i hi => ⟨by rw [hzc]; exact hi, rfl⟩) (HK.out.keep ((hbc.block 0 (by omega)).trans (hb1.block 0 hlt0)))
  rw [hsl] at C
  have HC := Lib.hid C
  have HBC := Lib.hid (hb1.trans (hbc.mono hz1))
  have HZC := Lib.hid hzc
  clear C hbc hzc hb1 hsl
  go_wp2_with fail
  refine HC.out.mono ?_
  rintro e w2 ⟨rfl, hb⟩
  have hz2 : w.heap.size ≤ w2.heap.size := by have := hb.size; rw [HZC.out] at this; omega
  have HB2 := Lib.hid (HBC.out.trans (hb.mono (by rw [HZC.out]; omega)))
  have n2 : RowB (w2.alloc (.cells (U (flb 32 [])).toArray 26)) w2.heap.size 26 (flb 32 []) := heap_alloc_new w2 _
  have n2' := n2.setRow (sha s.data.toList)
  have hb3 : Below w2.heap.size w2 ((w2.alloc (.cells (U (flb 32 [])).toArray 26)).setRow w2.heap.size (U (sha s.data.toList)).toArray) := below_setRow ((Below.refl _ _).alloc (Nat.le_refl _) _) (Nat.le_refl _) _
  have N2 := Lib.hid n2'
  have HB3 := Lib.hid hb3
  clear n2' hb3 hb HC hconv
  go_wp2_with (refine store_B rfl (.tmp 5) (.tmp 18) rfl w2.heap.size (flb 32 []) (sha s.data.toList) rfl rfl 26 n2 (sha_len _) (by simp [flb]) ?_)
  generalize hg3 : (w2.alloc _).setRow _ _ = W3
  have hb3 : Below w2.heap.size w2 W3 := by rw [← hg3]; exact HB3.out
  have hr3 : RowB W3 w2.heap.size 26 (sha s.data.toList) := by rw [← hg3]; exact N2.out
  clear hg3 HB3 N2 n2
  have hz3 := hb3.size
  have hlt3 := hr3.lt
  have hbw3 : Below w.heap.size w W3 := HB2.out.trans (hb3.mono (by omega))
  have hkeep : ∀ ww, Below W3.heap.size W3 ww → RowB ww w2.heap.size 26 (sha s.data.toList) ∧ KR ww Kt ∧ Byt ww (· < w.heap.size) l A cap ∧ Below w.heap.size w ww ∧ w.heap.size ≤ ww.heap.size := fun ww h => by
    have hbw := hbw3.trans (h.mono (by omega))
    exact ⟨hr3.keep (h.block _ hlt3), HK.out.keep (hbw.block 0 hlt0), HL.out.keep fun i hi => ⟨hi, hbw.block i hi⟩, hbw, hbw.size⟩
  have KEEP := Lib.hid hkeep
  have STEP := Lib.hid (show ∀ ww w', Below W3.heap.size W3 ww → Below ww.heap.size ww w' → Below W3.heap.size W3 w' from fun ww w' h1 h2 => h1.trans (h2.mono h1.size))
  have ct : ∀ ww, Below W3.heap.size W3 ww → Calls Tryd.prog 14 #[.string s, .slice A l.length cap] ww fun e w' => e = .returned (.agg (U (tagd s.data.toList l)).toArray) ∧ Below W3.heap.size W3 w' := fun ww h =>
    (tagged_all s l A cap ww (by omega) (by omega) ((KEEP.out ww h).2.2.1.keep fun i hi => ⟨by have := (KEEP.out ww h).2.2.2.2; omega, rfl⟩) (KEEP.out ww h).2.1).mono fun e w' ⟨he, hb'⟩ => ⟨he, STEP.out _ _ h hb'⟩
  have CT := Lib.hid ct
  have cs : ∀ (A6 : Option Addr) (c6 : Nat) (ww : World), Byt ww (· < ww.heap.size) (sha s.data.toList ++ l) A6 c6 → Below W3.heap.size W3 ww → Calls Tryd.prog 12 #[.slice A6 ((sha s.data.toList).length + l.length) c6] ww fun e w' => e = .returned (.agg (U (tagd s.data.toList l)).toArray) ∧ Below W3.heap.size W3 w' := fun A6 c6 ww hy h => by
    have := sum_all (sha s.data.toList ++ l) A6 c6 ww hy (KEEP.out ww h).2.1
    rw [List.length_append] at this
    exact this.mono fun e w' ⟨he, hb'⟩ => ⟨he, STEP.out _ _ h hb'⟩
  have CS := Lib.hid cs
  have q1 := eq_self (tagd s.data.toList l) (tagd_len _ _)
  have hsn := sha_len s.data.toList
  have HSN := Lib.hid hsn
  clear hkeep ct cs hbw3 hb3 hr3 hsn
  have hbx : Below W3.heap.size W3 W3.drew := (Below.refl _ _).drew
  go_region_law
    (first
      | (go_simp; go_at_call 14; (first | (with_reducible refine (CT.out _ hbx).mono ?_) | refine (CT.out _ (hbx.alloc hbx.size (.cells #[] 5))).mono ?_); rintro e w5 ⟨rfl, hb'⟩; clear hbx; have hbx := hb'; clear hb')
      | (refine step_app_new rfl (.tmp 22) (.tmp 23) rfl _ w2.heap.size 32 26 (sha s.data.toList) rfl rfl HSN.out.symm (by omega) (KEEP.out _ hbx).1 (by rw [HSN.out]; omega) ?_; intro A4 c4 w4 ho4 hb4; have HO4 := Lib.hid ho4; have hbs := hbx.size; have hz4 := hb4.size; have hby := STEP.out _ _ hbx hb4; clear hbx ho4 hb4; have hbx := hby; clear hby)
      | (refine step_app_new rfl (.tmp 22) (.tmp 23) rfl _ w2.heap.size 32 26 (sha s.data.toList) rfl rfl HSN.out.symm (by omega) (KEEP.out _ (hbx.alloc hbx.size (.cells #[] 5))).1 (by rw [HSN.out]; omega) ?_; intro A4 c4 w4 ho4 hb4; have HO4 := Lib.hid ho4; have hbs := (hbx.alloc hbx.size (.cells #[] 5)).size; have hz4 := hb4.size; have hby := STEP.out _ _ (hbx.alloc hbx.size (.cells #[] 5)) hb4; clear hbx ho4 hb4; have hbx := hby; clear hby)
      | (refine step_app_own rfl (.tmp 24) (.tmp 25) rfl _ _ _ _ _ (sha s.data.toList) l rfl rfl HO4.out (KEEP.out _ hbx).2.2.1 (by rw [HSN.out]; omega) hz4 ?_; intro v6 w6 ho6 hg6; obtain ⟨A6, c6, e6, hy6⟩ := ho6.byt; subst e6; have HY6 := Lib.hid (hy6.keep (w' := w6) (S' := (· < w6.heap.size)) fun i hi => ⟨hi.2, rfl⟩); have hby := below_own hbx hg6 HO4.out hbs hbx.size; clear hbx ho6 hg6 hy6; have hbx := hby; clear hby)
      | (go_simp; go_at_call 12; (with_reducible refine (CS.out _ _ _ HY6.out hbx).mono ?_); rintro e w7 ⟨rfl, hb'⟩; clear hbx; have hbx := hb'; clear hb'))
  all_goals
    have hfin := (KEEP.out _ hbx).2.2.2.1
    go_wp2
    go_ret
    exact ⟨rfl, hfin⟩
set_option maxRecDepth 100000 in
theorem tags_lifted (os : Os) (started : os.Started) (H : Type) (enc : TypeId × Value → H) :
    ReturnsInHanded {} Tryd.checked os 5 .any (fun w args => (Rows.digestTagsSpec.pre enc Tryd.prog Tryd.f5 [] false w args ∧ laidMetH Tryd.prog lay w) ∧ sizedMet enc Tryd.prog Tryd.f5 (OpenSpec.ofChange Rows.digestTagsSpec) false w args)
      (Rows.digestTagsSpec.post enc Tryd.prog Tryd.f5 false true false false) := by
  refine returnsInHanded_of_change_and (C := Tryd.checked) (X := fun w _ => laidMetH Tryd.prog lay w) (fun _ _ _ hh h => h.of_heap hh) prog_own started (by kernel_rfl) Tryd.func5
    (ChangeSpec.witness_shaped (enc := enc) (C := Tryd.checked) (os := os) (X := fun w _ => laidMetH Tryd.prog lay w) false (World.doorLaid Tryd.prog 14 os) #[.string .empty, .slice none 0 0] 8 rfl (World.shaped_of_RefB (by kernel_rfl) (by kernel_rfl)) (by kernel_rfl) (by kernel_rfl) (by kernel_rfl) (door_met os _)) ?_
  intro W base args ds gs before hval0 hW _ _ hL _
  have hval : ∀ (j : Nat) t v, Tryd.f5.params[j]? = some t → args[j]? = some v → Value.okWide Tryd.prog W .any base t v := hval0
  have hW' := hW
  obtain ⟨p, q, hA0, _, _, _, _⟩ := hW
  have hA : DataW.TrodAll enc Tryd.prog W 0 (fun _ => true) true Tryd.f5.params.toList args.toList ds p := hA0
  rw [Tryd.params5] at hA hval
  obtain ⟨v0, v1, e0, e1, p0, p1, rfl, rfl, rfl, h0, h1⟩ := trodAll_two hA
  obtain ⟨s, rfl, rfl, rfl, ws⟩ := Go.ChangeMaps.open_string Tryd.underlying9 (hval 0 9 v0 rfl rfl) h0
  obtain ⟨x1, A1, c1, rfl, hx1⟩ := arg_bytes (hval 1 22 v1 rfl rfl) h1
  refine (tags_all s x1 A1 c1 W hx1 (of_laid hL)).mono fun e W' ⟨he, hb⟩ => ?_
  subst he
  exact ⟨_, rfl, law_post rfl (fun ds hd => by
    match ds, hd with
    | [_, _], _ => rfl) (by kernel_rfl) (by
    rw [Tryd.params5]
    intro t ht
    simp only [List.mem_cons, List.not_mem_nil, or_false] at ht
    rcases ht with rfl | rfl
    · exact p_string
    · exact p_bytes) rfl hW' hb⟩

theorem tags_row : Rows.DigestTagsSaid :=
  OpenClaim.holds_of_wide 5 Tryd.f5 rfl rfl rfl rfl rfl rfl rfl ⟨rfl, rfl, rfl, rfl, rfl⟩ rfl rfl rfl rfl rfl (by kernel_rfl) Tryd.func5 (by kernel_rfl)
    (of_decide_eq_true (by kernel_rfl)) (by unfold Func.isWrapper; first | (rw [if_pos (by decide +kernel)]; kernel_rfl) | (rw [if_neg (by decide +kernel)]; exact ⟨rfl, rfl⟩))
    (fun os started H enc _ => tags_lifted os started H enc)

theorem tags_card : Rows.DigestTagsCardSaid :=
  Claim7.holds_tied_plain_at .later [] [.data] true Rows.digestTagsCard.stood.harness false
    tags_row (fun _ h => by cases h) (by kernel_rfl) (fun _ h => by cases h) digestTags_row_tie rfl ⟨rfl, rfl⟩ (by kernel_rfl) rfl
    (fun f fn hf hfn => by
      obtain rfl : f = 5 := Option.some.inj ((show Tryd.prog.funcNamed Rows.digestTagsRow.func = some 5 by kernel_rfl).symm.trans hf) |>.symm
      obtain rfl : fn = Tryd.f5 := (Option.some.inj (Tryd.func5.symm.trans hfn)).symm
      exact ⟨by kernel_rfl, fun j t ht => by
        rw [Tryd.params5] at ht
        have hm : t ∈ [9, 22] := by simpa using Array.mem_of_getElem? ht
        have hall : ([9, 22].all fun u => !Tryd.prog.wantsStandIn u) = true := by kernel_rfl
        exact (show Tryd.prog.wantsStandIn t = false by simpa using List.all_eq_true.1 hall t hm)⟩)
    (by kernel_rfl)
end Go.Proofs.YtidmhnaecpbdeaaDoor
