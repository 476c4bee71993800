/- Digest: the reference's node and Chain. -/
import Derived.Test.YtgojodldnodjpaaDoorJE
import Derived.Test.YtgojodldnodjpaaDoorHP
import Derived.Test.YtgojodldnodjpaaDoorHJ
namespace Go.Proofs.YtgojodldnodjpaaDoor
open Go.RowKit

set_option maxRecDepth 100000 in
set_option maxHeartbeats 1600000 in
theorem rnode_all (a b : List UInt8) (w : World) (ha : a.length = 32) (hb : b.length = 32) :
    Calls Tryd.prog 38 #[.agg (U a).toArray, .agg (U b).toArray] w fun e w' => e = .returned (.agg (U (noded a b)).toArray) ∧ Below w.heap.size w w' := by
  have HA := Lib.hid ha
  have HB := Lib.hid hb
  clear ha hb
  go_enter Tryd.func38, Tryd.ntmps38
  go_wp2_with fail
  generalize hW1 : ((w.alloc _).alloc _).alloc _ = W1
  obtain ⟨h0, h1, h2, hb1, hz1⟩ := box3 w (U a).toArray (U b).toArray (U (flb 32 [])).toArray 26 26 26 W1 hW1
  clear hW1
  have ra : RowB W1 w.heap.size 26 a := h0
  have rb : RowB W1 (w.heap.size + 1) 26 b := h1
  have rd : RowB W1 (w.heap.size + 2) 26 (flb 32 []) := h2
  have KE := Lib.hid (show ∀ ww, Below W1.heap.size W1 ww → RowB ww w.heap.size 26 a ∧ RowB ww (w.heap.size + 1) 26 b ∧ RowB ww (w.heap.size + 2) 26 (flb 32 []) ∧ Below w.heap.size w ww from fun ww h =>
    ⟨ra.keep (h.block _ (by omega)), rb.keep (h.block _ (by omega)), rd.keep (h.block _ (by omega)), hb1.trans (h.mono (by omega))⟩)
  have STEP := Lib.hid (show ∀ ww w', Below W1.heap.size W1 ww → Below ww.heap.size ww w' → Below W1.heap.size W1 w' from fun ww w' h1 h2 => h1.trans (h2.mono h1.size))
  have ct : ∀ A4 c4 ww, Byt ww (· < ww.heap.size) (a ++ b) A4 c4 → Below W1.heap.size W1 ww → Calls Tryd.prog 15 #[.string nodeT, .slice A4 (a.length + b.length) c4] ww fun e w' => e = .returned (.agg (U (noded a b)).toArray) ∧ Below W1.heap.size W1 w' := by
    intro A4 c4 ww hy h
    have := rtagged_all nodeT (a ++ b) A4 c4 ww (by decide) (by rw [List.length_append, HA.out, HB.out]; omega) hy
    rw [List.length_append] at this
    exact this.mono fun e w' ⟨he, hb'⟩ => ⟨he, STEP.out _ _ h hb'⟩
  have CT := Lib.hid ct
  have hul : (U (noded a b)).length = 32 := by rw [U_length]; exact tagd_len _ _
  clear ct ra rb rd h0 h1 h2 hb1 hz1
  have hbx : Below W1.heap.size W1 W1.drew := (Below.refl _ _).drew
  go_region_law
    (first
      | (refine step_app_new rfl (.tmp 5) (.tmp 6) rfl _ w.heap.size 32 26 a rfl rfl HA.out.symm (by omega) (KE.out _ hbx).1 (by rw [HA.out]; omega) ?_; intro A4 c4 w4 ho4 hb4; have HO4 := Lib.hid ho4; have hbs := hbx.size; have hz4 := hb4.size; have hby := STEP.out _ _ hbx hb4; clear hbx ho4 hb4; have hbx := hby; clear hby)
      | (refine step_app_new rfl (.tmp 5) (.tmp 6) rfl _ w.heap.size 32 26 a rfl rfl HA.out.symm (by omega) (KE.out _ (hbx.alloc hbx.size (.cells #[] 5))).1 (by rw [HA.out]; omega) ?_; intro A4 c4 w4 ho4 hb4; have HO4 := Lib.hid ho4; have hbs := (hbx.alloc hbx.size (.cells #[] 5)).size; have hz4 := hb4.size; have hby := STEP.out _ _ (hbx.alloc hbx.size (.cells #[] 5)) hb4; clear hbx ho4 hb4; have hbx := hby; clear hby)
      | (refine step_app_own rfl (.tmp 7) (.tmp 8) rfl _ _ _ _ _ a b rfl (by rw [HB.out]; rfl) HO4.out ((KE.out _ hbx).2.1.byt32 HB.out) (by rw [HA.out, HB.out]; simp) hz4 ?_; intro v6 w6 ho6 hg6; obtain ⟨A6, c6, e6, hy6⟩ := ho6.byt; subst e6; have HY6 := Lib.hid (hy6.keep (w' := w6) (S' := (· < w6.heap.size)) fun i hi => ⟨hi.2, rfl⟩); have hby := below_own hbx hg6 HO4.out hbs hbx.size; clear hbx ho6 hg6 hy6; have hbx := hby; clear hby)
      | (go_simp; go_at_call 15; (first | (with_reducible refine (CT.out _ _ _ HY6.out hbx).mono ?_) | refine (CT.out _ _ _ HY6.out hbx).mono ?_); rintro e w7 ⟨rfl, hb'⟩; clear hbx; have hbx := hb'; clear hb'; obtain ⟨hst1, hst2⟩ := st_row w7 _ _ _ _ (KE.out _ hbx).2.2.1 (by simp [flb]) (show (noded a b).length = 32 from tagd_len _ _)))
  all_goals
    have hr9 := (KE.out _ hbx).2.2.1.setRow (noded a b)
    clear hst1 hst2
    go_wp2_with fail
    exact bodyPost_ret (res_B rfl _ _ _ _ _ rfl hr9 (tagd_len _ _)) rfl ⟨rfl, below_setRow (KE.out _ hbx).2.2.2 (by omega) _⟩

set_option maxRecDepth 100000 in
set_option maxHeartbeats 1600000 in
theorem rchain_all (a b : List UInt8) (w : World) (ha : a.length = 32) (hb : b.length = 32) :
    Calls Tryd.prog 26 #[.agg (U a).toArray, .agg (U b).toArray] w fun e w' => e = .returned (.agg (U (chaind a b)).toArray) ∧ Below w.heap.size w w' := by
  have HA := Lib.hid ha
  have HB := Lib.hid hb
  clear ha hb
  go_enter Tryd.func26, Tryd.ntmps26
  go_wp2_with fail
  generalize hW1 : ((w.alloc _).alloc _).alloc _ = W1
  obtain ⟨h0, h1, h2, hb1, hz1⟩ := box3 w (U a).toArray (U b).toArray (U (flb 32 [])).toArray 26 26 26 W1 hW1
  clear hW1
  have ra : RowB W1 w.heap.size 26 a := h0
  have rb : RowB W1 (w.heap.size + 1) 26 b := h1
  have rd : RowB W1 (w.heap.size + 2) 26 (flb 32 []) := h2
  have KE := Lib.hid (show ∀ ww, Below W1.heap.size W1 ww → RowB ww w.heap.size 26 a ∧ RowB ww (w.heap.size + 1) 26 b ∧ RowB ww (w.heap.size + 2) 26 (flb 32 []) ∧ Below w.heap.size w ww from fun ww h =>
    ⟨ra.keep (h.block _ (by omega)), rb.keep (h.block _ (by omega)), rd.keep (h.block _ (by omega)), hb1.trans (h.mono (by omega))⟩)
  have STEP := Lib.hid (show ∀ ww w', Below W1.heap.size W1 ww → Below ww.heap.size ww w' → Below W1.heap.size W1 w' from fun ww w' h1 h2 => h1.trans (h2.mono h1.size))
  have ct : ∀ A4 c4 ww, Byt ww (· < ww.heap.size) (a ++ b) A4 c4 → Below W1.heap.size W1 ww → Calls Tryd.prog 15 #[.string chainT, .slice A4 (a.length + b.length) c4] ww fun e w' => e = .returned (.agg (U (chaind a b)).toArray) ∧ Below W1.heap.size W1 w' := by
    intro A4 c4 ww hy h
    have := rtagged_all chainT (a ++ b) A4 c4 ww (by decide) (by rw [List.length_append, HA.out, HB.out]; omega) hy
    rw [List.length_append] at this
    exact this.mono fun e w' ⟨he, hb'⟩ => ⟨he, STEP.out _ _ h hb'⟩
  have CT := Lib.hid ct
  have hul : (U (chaind a b)).length = 32 := by rw [U_length]; exact tagd_len _ _
  clear ct ra rb rd h0 h1 h2 hb1 hz1
  have hbx : Below W1.heap.size W1 W1.drew := (Below.refl _ _).drew
  go_region_law
    (first
      | (refine step_app_new rfl (.tmp 5) (.tmp 6) rfl _ w.heap.size 32 26 a rfl rfl HA.out.symm (by omega) (KE.out _ hbx).1 (by rw [HA.out]; omega) ?_; intro A4 c4 w4 ho4 hb4; have HO4 := Lib.hid ho4; have hbs := hbx.size; have hz4 := hb4.size; have hby := STEP.out _ _ hbx hb4; clear hbx ho4 hb4; have hbx := hby; clear hby)
      | (refine step_app_new rfl (.tmp 5) (.tmp 6) rfl _ w.heap.size 32 26 a rfl rfl HA.out.symm (by omega) (KE.out _ (hbx.alloc hbx.size (.cells #[] 5))).1 (by rw [HA.out]; omega) ?_; intro A4 c4 w4 ho4 hb4; have HO4 := Lib.hid ho4; have hbs := (hbx.alloc hbx.size (.cells #[] 5)).size; have hz4 := hb4.size; have hby := STEP.out _ _ (hbx.alloc hbx.size (.cells #[] 5)) hb4; clear hbx ho4 hb4; have hbx := hby; clear hby)
      | (refine step_app_own rfl (.tmp 7) (.tmp 8) rfl _ _ _ _ _ a b rfl (by rw [HB.out]; rfl) HO4.out ((KE.out _ hbx).2.1.byt32 HB.out) (by rw [HA.out, HB.out]; simp) hz4 ?_; intro v6 w6 ho6 hg6; obtain ⟨A6, c6, e6, hy6⟩ := ho6.byt; subst e6; have HY6 := Lib.hid (hy6.keep (w' := w6) (S' := (· < w6.heap.size)) fun i hi => ⟨hi.2, rfl⟩); have hby := below_own hbx hg6 HO4.out hbs hbx.size; clear hbx ho6 hg6 hy6; have hbx := hby; clear hby)
      | (go_simp; go_at_call 15; (first | (with_reducible refine (CT.out _ _ _ HY6.out hbx).mono ?_) | refine (CT.out _ _ _ HY6.out hbx).mono ?_); rintro e w7 ⟨rfl, hb'⟩; clear hbx; have hbx := hb'; clear hb'; obtain ⟨hst1, hst2⟩ := st_row w7 _ _ _ _ (KE.out _ hbx).2.2.1 (by simp [flb]) (show (chaind a b).length = 32 from tagd_len _ _)))
  all_goals
    have hr9 := (KE.out _ hbx).2.2.1.setRow (chaind a b)
    clear hst1 hst2
    go_wp2_with fail
    exact bodyPost_ret (res_B rfl _ _ _ _ _ rfl hr9 (tagd_len _ _)) rfl ⟨rfl, below_setRow (KE.out _ hbx).2.2.2 (by omega) _⟩
end Go.Proofs.YtgojodldnodjpaaDoor
