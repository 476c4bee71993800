/- Proved: for every value that can be read as data (it does not hold itself), in whatever memory and on every schedule, CodecEncodeSpec returns true and its argument reads afterwards as before; there is no further condition. -/
import Derived.Test.YtomiacedailmaaaCV
import Derived.Deep.RegionHeld3
namespace Go.Proofs.Ytomiacedailmaaa
open Go.ChangeShapes Go.WideShapes Go.ChangeAt Go.RowKit

set_option maxRecDepth 100000 in
set_option maxHeartbeats 3200000 in
theorem encspec_all (v : V) (A : Option Addr) (cap : Nat) (w : World) (hv : RdV w (· < w.heap.size) v A cap) :
    Calls Try.prog 3 #[v.val A cap] w fun e w' => e = .returned (.bool true) ∧ Below w.heap.size w w' := by
  have HV := Lib.hid hv
  clear hv
  go_enter Try.func3, Try.ntmps3
  go_wp2_with fail
  obtain ⟨W0, hW0⟩ : ∃ W0, W0 = w.alloc (.cells #[.int .i64 v.k, .int .i64 v.n, .string v.s, .slice A v.l.len cap] 24) := ⟨_, rfl⟩
  rw [← hW0]
  have x0 : W0.heap[w.heap.size]? = some (.cells #[.int .i64 v.k, .int .i64 v.n, .string v.s, .slice A v.l.len cap] 24 (0, 0)) := by rw [hW0]; exact heap_alloc_new w _
  have hz0 : w.heap.size + 1 ≤ W0.heap.size := by rw [hW0]; simp
  have hb0 : Below w.heap.size w W0 := by rw [hW0]; exact (Below.refl _ _).alloc (Nat.le_refl _) _
  clear hW0
  refine (sane_all W0).mono ?_
  rintro e w1 ⟨rfl, hb'⟩
  have x1 := (hb'.block _ (by omega)).trans x0
  have hb1 : Below w.heap.size w w1 := hb0.trans (hb'.mono (by omega))
  have hz1 : w.heap.size + 1 ≤ w1.heap.size := Nat.le_trans hz0 hb'.size
  clear hb' hb0 hz0 x0
  obtain ⟨p0, p1, p2, p3⟩ := box_cells x1
  go_wp2_with fail
  obtain ⟨W2, hW2⟩ : ∃ W2, W2 = w1.alloc (.cells #[.int .i64 v.k, .int .i64 v.n, .string v.s, .slice A v.l.len cap] 24) := ⟨_, rfl⟩
  rw [← hW2]
  have hsl := sl_one (HV.out.keep (S' := (· < w1.heap.size)) fun i hi => ⟨by omega, hb1.block i hi⟩) W2 hW2
  have hb2 : Below w1.heap.size w1 W2 := by rw [hW2]; exact (Below.refl _ _).alloc (Nat.le_refl _) _
  clear hW2 p0 p1 p2 p3
  refine (lfew_all (F.push v .nil) W2.heap.size _ _ W2 hsl (Nat.le_refl _)).mono ?_
  rintro e w3 ⟨rfl, hb'⟩
  have hb13 : Below w1.heap.size w1 w3 := hb2.trans (hb'.mono hb2.size)
  have x3 := (hb13.block _ (by omega)).trans x1
  have hb3 : Below w.heap.size w w3 := hb1.trans (hb13.mono (by omega))
  have hz3 : w.heap.size + 1 ≤ w3.heap.size := Nat.le_trans hz1 hb13.size
  clear hb' hsl hb2 hb13 x1 hb1 hz1
  obtain ⟨p0, p1, p2, p3⟩ := box_cells x3
  obtain ⟨q, hq⟩ : ∃ q, q = allFew (F.push v .nil).toList := ⟨_, rfl⟩
  rw [← hq]
  cases q with
  | false =>
    clear hq
    go_wp2_with fail
    go_ret
    exact ⟨rfl, hb3⟩
  | true =>
  obtain ⟨fd, fe⟩ := allFew_mem hq.symm (v := v) (by simp [F.push, F.toList])
  clear hq
  have hra : ∀ ww, Below w.heap.size w ww → RdV ww (· < w.heap.size) v A cap := fun ww h => HV.out.below h
  have E1 := Lib.hid (fun ww (h : Below w.heap.size w ww) => encode_all v w.heap.size A cap ww (hra ww h) h.size (by omega) (by omega))
  have E2 := Lib.hid (fun ww (h : Below w.heap.size w ww) => rEncode_all v w.heap.size A cap ww (hra ww h) h.size (by omega) (by omega))
  have E3 := Lib.hid (fun ww (h : Below w.heap.size w ww) => size_all v w.heap.size A cap ww (hra ww h) h.size (by omega) (by omega))
  have E4 := Lib.hid (fun ww (h : Below w.heap.size w ww) => rSize_all v w.heap.size A cap ww (hra ww h) h.size (by omega) (by omega))
  have C1 := Lib.hid (fun ww (h : Below w.heap.size w ww) => check_all v w.heap.size A cap ww (hra ww h) h.size (by omega))
  have C2 := Lib.hid (fun ww (h : Below w.heap.size w ww) => rcheck_all v w.heap.size A cap ww (hra ww h) h.size (by omega))
  clear hra
  go_wp2_with fail
  refine (E1.out _ hb3).mono ?_
  rintro e w4 ⟨bv, rfl, ho, hb'⟩
  obtain ⟨Aa, capa, rfl, hya⟩ := ho.byt
  have HYA := Lib.hid (hya.toB (B := w4.heap.size) fun i hi => hi.2)
  have x4 := (hb'.block _ (by omega)).trans x3
  have hb4 : Below w.heap.size w w4 := hb3.trans (hb'.mono (by omega))
  have hz4 : w.heap.size + 1 ≤ w4.heap.size := Nat.le_trans hz3 hb'.size
  clear ho hya hb' x3 hb3 hz3 p0 p1 p2 p3
  obtain ⟨p0, p1, p2, p3⟩ := box_cells x4
  go_wp2_with fail
  refine (E2.out _ hb4).mono ?_
  rintro e w5 ⟨bv, rfl, ho, hb'⟩
  obtain ⟨Ab, capb, rfl, hyb⟩ := ho.byt
  have HYB := Lib.hid (hyb.toB (B := w5.heap.size) fun i hi => hi.2)
  have hz45 := hb'.size
  have HYA5 := Lib.hid (HYA.out.keep (S' := (· < w5.heap.size)) fun i hi => ⟨by omega, hb'.block i hi⟩)
  have x5 := (hb'.block _ (by omega)).trans x4
  have hb5 : Below w.heap.size w w5 := hb4.trans (hb'.mono (by omega))
  have hz5 : w.heap.size + 1 ≤ w5.heap.size := Nat.le_trans hz4 hb'.size
  clear ho hyb hb' x4 hb4 hz4 hz45 HYA p0 p1 p2 p3
  obtain ⟨p0, p1, p2, p3⟩ := box_cells x5
  go_wp2_with fail
  refine (E3.out _ hb5).mono ?_
  rintro e w6 ⟨rfl, hb'⟩
  have x6 := (hb'.block _ (by omega)).trans x5
  have hb6 : Below w.heap.size w w6 := hb5.trans (hb'.mono (by omega))
  have hz6 : w.heap.size + 1 ≤ w6.heap.size := Nat.le_trans hz5 hb'.size
  have hb56 : Below w5.heap.size w5 w6 := hb'
  clear hb' x5 p0 p1 p2 p3
  obtain ⟨p0, p1, p2, p3⟩ := box_cells x6
  go_wp2_with fail
  refine (E4.out _ hb6).mono ?_
  rintro e w7 ⟨rfl, hb'⟩
  have x7 := (hb'.block _ (by omega)).trans x6
  have hb7 : Below w.heap.size w w7 := hb6.trans (hb'.mono (by omega))
  have hz7 : w.heap.size + 1 ≤ w7.heap.size := Nat.le_trans hz6 hb'.size
  have hb57 : Below w5.heap.size w5 w7 := hb56.trans (hb'.mono hb56.size)
  have hz57 := hb57.size
  have hstep : ∀ ww w', Below w7.heap.size w7 ww → Below ww.heap.size ww w' → Below w7.heap.size w7 w' := fun ww w' h1 h2 => h1.trans (h2.mono h1.size)
  have hwb : ∀ ww, Below w7.heap.size w7 ww → Below w.heap.size w ww := fun ww h => hb7.trans (h.mono (by omega))
  have hcells : ∀ ww, Below w7.heap.size w7 ww → ww.cell? ⟨w.heap.size, 0, none⟩ = some (.int .i64 v.k) ∧ ww.cell? ⟨w.heap.size, 1, none⟩ = some (.int .i64 v.n) ∧ ww.cell? ⟨w.heap.size, 2, none⟩ = some (.string v.s) ∧ ww.cell? ⟨w.heap.size, 3, none⟩ = some (.slice A v.l.len cap) ∧
      (convert 27 9 (.slice Aa v.out.length capa)).run Try.prog ww = .ok (.string ⟨v.out.toArray⟩) ww ∧ (convert 27 9 (.slice Ab v.out.length capb)).run Try.prog ww = .ok (.string ⟨v.out.toArray⟩) ww := by
    intro ww h
    obtain ⟨p0, p1, p2, p3⟩ := box_cells ((h.block _ (by omega)).trans x7)
    exact ⟨p0, p1, p2, p3, conv_str (HYA5.out.keep (S' := (· < w5.heap.size)) fun i hi => ⟨hi, (h.block i (by omega)).trans (hb57.block i hi)⟩) rfl, conv_str (HYB.out.keep (S' := (· < w5.heap.size)) fun i hi => ⟨hi, (h.block i (by omega)).trans (hb57.block i hi)⟩) rfl⟩
  clear hb' x6 hb5 hb6 hb56 hb57 hz57 hz5 hz6 HYA5 HYB E1 E2 E3 E4 p0 p1 p2 p3
  have KEEP := Lib.hid hcells
  have STEP := Lib.hid hstep
  have WB := Lib.hid hwb
  obtain ⟨p0, p1, p2, p3, k1, k2⟩ := hcells w7 (Below.refl _ _)
  clear hcells hstep hwb x7
  have hbx : Below w7.heap.size w7 w7.drew := (Below.refl _ _).drew
  have hc1 : v.out.length ≤ v.enc.length := by unfold V.out; split <;> simp
  go_wp2_with fail
  go_region_held3 (fun w' => w'.cell? ⟨w.heap.size, 0, none⟩ = some (.int .i64 v.k) ∧ w'.cell? ⟨w.heap.size, 1, none⟩ = some (.int .i64 v.n) ∧ w'.cell? ⟨w.heap.size, 2, none⟩ = some (.string v.s) ∧ w'.cell? ⟨w.heap.size, 3, none⟩ = some (.slice A v.l.len cap) ∧
      (convert 27 9 (.slice Aa v.out.length capa)).run Try.prog w' = .ok (.string ⟨v.out.toArray⟩) w' ∧ (convert 27 9 (.slice Ab v.out.length capb)).run Try.prog w' = .ok (.string ⟨v.out.toArray⟩) w') (first | exact ⟨p0, p1, p2, p3, k1, k2⟩ | exact KEEP.out _ hbx)
      (first
        | (go_at_call 17; (with_reducible refine (C2.out _ (WB.out _ hbx)).mono ?_); rintro e w8 ⟨rfl, hb'⟩; have hby := STEP.out _ _ hbx hb'; clear hbx hb'; have hbx := hby; clear hby)
        | (go_at_call 16; (with_reducible refine (C1.out _ (WB.out _ hbx)).mono ?_); rintro e w8 ⟨rfl, hb'⟩; have hby := STEP.out _ _ hbx hb'; clear hbx hb'; have hbx := hby; clear hby))
  all_goals
    go_wp2
    go_ret
    exact ⟨rfl, WB.out _ hbx⟩

set_option maxRecDepth 100000 in
theorem encspec_lifted (os : Os) (started : os.Started) (H : Type) (enc : TypeId × Value → H) :
    ReturnsInHanded {} Try.checked os 3 .any (Rows.codecEncodeSpecSpec.pre6 enc Try.prog Try.f3 Rows.codecEncodeSpecRow.domain false) (Rows.codecEncodeSpecSpec.post enc Try.prog Try.f3 false true false false) := by
  refine returnsInHanded_of_change (C := Try.checked) prog_own started (by kernel_rfl) Try.func3
    (ChangeSpec.witness6 (enc := enc) (C := Try.checked) false ⟨#[], #[.agg #[.int .i64 0, .int .i64 0, .string .empty, .slice none 0 0]], []⟩ 8 (by kernel_rfl) (by kernel_rfl) (by kernel_rfl) (by kernel_rfl)) ?_
  intro W base args ds gs before hval0 hW _ _
  have hval : ∀ (j : Nat) t v, Try.f3.params[j]? = some t → args[j]? = some v → Value.okWide Try.prog W .any base t v := hval0
  have hW' : DataW.Whole enc Try.prog Try.f3.params.toList Rows.codecEncodeSpecSpec.vars false W args.toList ds gs before := hW
  obtain ⟨p, q, hA0, _, _, _, _⟩ := hW
  have hA : DataW.TrodAll enc Try.prog W 0 (fun _ => true) true Try.f3.params.toList args.toList ds p := hA0
  rw [Try.params3] at hA hval
  obtain ⟨v0, d0, rfl, rfl, h0⟩ := trodAll_one hA
  obtain ⟨x0, A0, c0, rfl, hx0⟩ := arg_val (hval 0 24 v0 rfl rfl) h0
  refine (encspec_all x0 A0 c0 W hx0).mono fun e W' ⟨he, hb⟩ => ?_
  subst he
  exact ⟨_, rfl, law_post rfl (fun ds hd => by
    match ds, hd with
    | [_], _ => rfl) (by kernel_rfl) (by
    rw [Try.params3]
    intro t ht
    simp only [List.mem_cons, List.not_mem_nil, or_false] at ht
    rcases ht with rfl
    · exact p_val) rfl hW' hb⟩

theorem encspec_holds : Rows.CodecEncodeSpecSaid :=
  OpenClaim.holds_of_wide 3 Try.f3 rfl rfl rfl rfl rfl rfl rfl ⟨rfl, rfl, rfl, rfl, rfl⟩ rfl rfl rfl rfl rfl (by kernel_rfl) Try.func3 (by kernel_rfl)
    (of_decide_eq_true (by kernel_rfl)) (by unfold Func.isWrapper; first | (rw [if_pos (by decide +kernel)]; kernel_rfl) | (rw [if_neg (by decide +kernel)]; exact ⟨rfl, rfl⟩))
    (fun os started H enc _ => encspec_lifted os started H enc)
end Go.Proofs.Ytomiacedailmaaa
