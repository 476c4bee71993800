/- Proved: for every two values that can be read as data (none holds itself), in whatever memory and on every schedule, CodecSameSpec returns true and its arguments read afterwards as before; there is no further condition. -/
import Derived.Test.YtomiacedailmaaaCV
import Derived.Deep.RegionHeld3
namespace Go.Proofs.Ytomiacedailmaaa
open Go.ChangeShapes Go.WideShapes Go.ChangeAt Go.RowKit

set_option maxRecDepth 100000 in
set_option maxHeartbeats 3200000 in
theorem samespec_all (a b : V) (A B : Option Addr) (ca cb : Nat) (w : World) (ha : RdV w (· < w.heap.size) a A ca) (hb : RdV w (· < w.heap.size) b B cb) :
    Calls Try.prog 5 #[a.val A ca, b.val B cb] w fun e w' => e = .returned (.bool true) ∧ Below w.heap.size w w' := by
  have HA := Lib.hid ha
  have HB := Lib.hid hb
  clear ha hb
  go_enter Try.func5, Try.ntmps5
  go_wp2_with fail
  obtain ⟨W1, hW1, c0, c1, hz, hb, b0, b1⟩ := two_boxes w #[.int .i64 a.k, .int .i64 a.n, .string a.s, .slice A a.l.len ca] #[.int .i64 b.k, .int .i64 b.n, .string b.s, .slice B b.l.len cb] 24 24
  rw [← hW1]
  clear hW1 c0 c1
  refine (sane_all W1).mono ?_
  rintro e w1 ⟨rfl, hb'⟩
  have x1 := (hb'.block _ (by omega)).trans b0
  have y1 := (hb'.block _ (by omega)).trans b1
  have hb1 : Below w.heap.size w w1 := hb.trans (hb'.mono (by omega))
  have hz1 : w.heap.size + 2 ≤ w1.heap.size := by have := hb'.size; omega
  clear hb' hb hz b0 b1
  obtain ⟨p0, p1, p2, p3⟩ := box_cells x1
  obtain ⟨q0, q1, q2, q3⟩ := box_cells y1
  go_wp2_with fail
  obtain ⟨W2, hW2⟩ : ∃ W2, W2 = w1.alloc (.cells #[.int .i64 a.k, .int .i64 a.n, .string a.s, .slice A a.l.len ca, .int .i64 b.k, .int .i64 b.n, .string b.s, .slice B b.l.len cb] 24) := ⟨_, rfl⟩
  rw [← hW2]
  have hsl := sl_two (HA.out.keep (S' := (· < w1.heap.size)) fun i hi => ⟨by omega, hb1.block i hi⟩) (HB.out.keep (S' := (· < w1.heap.size)) fun i hi => ⟨by omega, hb1.block i hi⟩) W2 hW2
  have hb2 : Below w1.heap.size w1 W2 := by rw [hW2]; exact (Below.refl _ _).alloc (Nat.le_refl _) _
  clear hW2 p0 p1 p2 p3 q0 q1 q2 q3
  refine (lfew_all (F.push a (F.push b .nil)) W2.heap.size _ _ W2 hsl (Nat.le_refl _)).mono ?_
  rintro e w3 ⟨rfl, hb'⟩
  have hb13 : Below w1.heap.size w1 w3 := hb2.trans (hb'.mono hb2.size)
  have x3 := (hb13.block _ (by omega)).trans x1
  have y3 := (hb13.block _ (by omega)).trans y1
  have hb3 : Below w.heap.size w w3 := hb1.trans (hb13.mono (by omega))
  have hz3 : w.heap.size + 2 ≤ w3.heap.size := Nat.le_trans hz1 hb13.size
  clear hb' hsl hb2 hb13 x1 y1 hb1 hz1
  obtain ⟨q, hq⟩ : ∃ q, q = allFew (F.push a (F.push b .nil)).toList := ⟨_, rfl⟩
  rw [← hq]
  cases q with
  | false =>
    clear hq
    go_wp2_with fail
    go_ret
    exact ⟨rfl, hb3⟩
  | true =>
  clear hq
  have hstep : ∀ ww w', Below (w.heap.size + 2) w3 ww → Below ww.heap.size ww w' → Below (w.heap.size + 2) w3 w' := fun ww w' h1 h2 => h1.trans (h2.mono (Nat.le_trans hz3 h1.size))
  have hcells : ∀ ww, Below (w.heap.size + 2) w3 ww → ww.cell? ⟨w.heap.size, 0, none⟩ = some (.int .i64 a.k) ∧ ww.cell? ⟨w.heap.size, 1, none⟩ = some (.int .i64 a.n) ∧ ww.cell? ⟨w.heap.size, 2, none⟩ = some (.string a.s) ∧ ww.cell? ⟨w.heap.size, 3, none⟩ = some (.slice A a.l.len ca) ∧
      ww.cell? ⟨w.heap.size + 1, 0, none⟩ = some (.int .i64 b.k) ∧ ww.cell? ⟨w.heap.size + 1, 1, none⟩ = some (.int .i64 b.n) ∧ ww.cell? ⟨w.heap.size + 1, 2, none⟩ = some (.string b.s) ∧ ww.cell? ⟨w.heap.size + 1, 3, none⟩ = some (.slice B b.l.len cb) := by
    intro ww h
    obtain ⟨p0, p1, p2, p3⟩ := box_cells ((h.block _ (by omega)).trans x3)
    obtain ⟨q0, q1, q2, q3⟩ := box_cells ((h.block _ (by omega)).trans y3)
    exact ⟨p0, p1, p2, p3, q0, q1, q2, q3⟩
  have hra : ∀ ww, Below (w.heap.size + 2) w3 ww → RdV ww (· < w.heap.size) a A ca ∧ RdV ww (· < w.heap.size) b B cb ∧ w.heap.size ≤ ww.heap.size := fun ww h =>
    ⟨HA.out.below (hb3.trans (h.mono (by omega))), HB.out.below (hb3.trans (h.mono (by omega))), by have := h.size; omega⟩
  obtain ⟨q, hq⟩ : ∃ q, q = a.same b := ⟨_, rfl⟩
  have C1 := Lib.hid (fun ww (h : Below (w.heap.size + 2) w3 ww) => (same_all a b w.heap.size A B ca cb ww (hra ww h).1 (hra ww h).2.1 (hra ww h).2.2))
  have C2 := Lib.hid (fun ww (h : Below (w.heap.size + 2) w3 ww) => (rsame_all a b w.heap.size A B ca cb ww (hra ww h).1 (hra ww h).2.1 (hra ww h).2.2))
  have C3 := Lib.hid (fun ww (h : Below (w.heap.size + 2) w3 ww) => (same_all a a w.heap.size A A ca ca ww (hra ww h).1 (hra ww h).1 (hra ww h).2.2))
  have C4 := Lib.hid (fun ww (h : Below (w.heap.size + 2) w3 ww) => (same_all b b w.heap.size B B cb cb ww (hra ww h).2.1 (hra ww h).2.1 (hra ww h).2.2))
  rw [(V.same_iff a a).2 rfl] at C3
  rw [(V.same_iff b b).2 rfl] at C4
  rw [← hq] at C1 C2
  clear hq hra
  have KEEP := Lib.hid hcells
  have STEP := Lib.hid hstep
  obtain ⟨p0, p1, p2, p3, q0, q1, q2, q3⟩ := hcells w3 (Below.refl _ _)
  clear hcells hstep x3 y3
  have hbx : Below (w.heap.size + 2) w3 w3.drew := (Below.refl _ _).drew
  cases q
  all_goals
    go_wp2_with fail
    go_region_held3 (fun w' => w'.cell? ⟨w.heap.size, 0, none⟩ = some (.int .i64 a.k) ∧ w'.cell? ⟨w.heap.size, 1, none⟩ = some (.int .i64 a.n) ∧ w'.cell? ⟨w.heap.size, 2, none⟩ = some (.string a.s) ∧ w'.cell? ⟨w.heap.size, 3, none⟩ = some (.slice A a.l.len ca) ∧
        w'.cell? ⟨w.heap.size + 1, 0, none⟩ = some (.int .i64 b.k) ∧ w'.cell? ⟨w.heap.size + 1, 1, none⟩ = some (.int .i64 b.n) ∧ w'.cell? ⟨w.heap.size + 1, 2, none⟩ = some (.string b.s) ∧ w'.cell? ⟨w.heap.size + 1, 3, none⟩ = some (.slice B b.l.len cb)) (first | exact ⟨p0, p1, p2, p3, q0, q1, q2, q3⟩ | exact KEEP.out _ hbx)
      (first
        | (go_at_call 20; (with_reducible refine (C2.out _ hbx).mono ?_); rintro e w5 ⟨rfl, hb'⟩; have hby := STEP.out _ _ hbx hb'; clear hbx hb'; have hbx := hby; clear hby)
        | (go_at_call 21; (first | (with_reducible refine (C1.out _ hbx).mono ?_) | (with_reducible refine (C3.out _ hbx).mono ?_) | (with_reducible refine (C4.out _ hbx).mono ?_)); rintro e w5 ⟨rfl, hb'⟩; have hby := STEP.out _ _ hbx hb'; clear hbx hb'; have hbx := hby; clear hby))
    all_goals
      go_wp2
      go_ret
      exact ⟨rfl, hb3.trans (hbx.mono (by omega))⟩

set_option maxRecDepth 100000 in
theorem samespec_lifted (os : Os) (started : os.Started) (H : Type) (enc : TypeId × Value → H) :
    ReturnsInHanded {} Try.checked os 5 .any (Rows.codecSameSpecSpec.pre6 enc Try.prog Try.f5 Rows.codecSameSpecRow.domain false) (Rows.codecSameSpecSpec.post enc Try.prog Try.f5 false true false false) := by
  refine returnsInHanded_of_change (C := Try.checked) prog_own started (by kernel_rfl) Try.func5
    (ChangeSpec.witness6 (enc := enc) (C := Try.checked) false ⟨#[], #[.agg #[.int .i64 0, .int .i64 0, .string .empty, .slice none 0 0], .agg #[.int .i64 0, .int .i64 0, .string .empty, .slice none 0 0]], []⟩ 8 (by kernel_rfl) (by kernel_rfl) (by kernel_rfl) (by kernel_rfl)) ?_
  intro W base args ds gs before hval0 hW _ _
  have hval : ∀ (j : Nat) t v, Try.f5.params[j]? = some t → args[j]? = some v → Value.okWide Try.prog W .any base t v := hval0
  have hW' : DataW.Whole enc Try.prog Try.f5.params.toList Rows.codecSameSpecSpec.vars false W args.toList ds gs before := hW
  obtain ⟨p, q, hA0, _, _, _, _⟩ := hW
  have hA : DataW.TrodAll enc Try.prog W 0 (fun _ => true) true Try.f5.params.toList args.toList ds p := hA0
  rw [Try.params5] at hA hval
  obtain ⟨v0, v1, d0, d1, p0, p1, rfl, rfl, rfl, h0, h1⟩ := trodAll_two hA
  obtain ⟨x0, A0, c0, rfl, hx0⟩ := arg_val (hval 0 24 v0 rfl rfl) h0
  obtain ⟨x1, A1, c1, rfl, hx1⟩ := arg_val (hval 1 24 v1 rfl rfl) h1
  refine (samespec_all x0 x1 A0 A1 c0 c1 W hx0 hx1).mono fun e W' ⟨he, hb⟩ => ?_
  subst he
  exact ⟨_, rfl, law_post rfl (fun ds hd => by
    match ds, hd with
    | [_, _], _ => rfl) (by kernel_rfl) (by
    rw [Try.params5]
    intro t ht
    simp only [List.mem_cons, List.not_mem_nil, or_false, or_self] at ht
    rcases ht with rfl
    · exact p_val) rfl hW' hb⟩

theorem samespec_holds : Rows.CodecSameSpecSaid :=
  OpenClaim.holds_of_wide 5 Try.f5 rfl rfl rfl rfl rfl rfl rfl ⟨rfl, rfl, rfl, rfl, rfl⟩ rfl rfl rfl rfl rfl (by kernel_rfl) Try.func5 (by kernel_rfl)
    (of_decide_eq_true (by kernel_rfl)) (by unfold Func.isWrapper; first | (rw [if_pos (by decide +kernel)]; kernel_rfl) | (rw [if_neg (by decide +kernel)]; exact ⟨rfl, rfl⟩))
    (fun os started H enc _ => samespec_lifted os started H enc)
end Go.Proofs.Ytomiacedailmaaa
