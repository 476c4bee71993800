/- Proved: for every value that can be read as data (none holds itself) and every bytes, in whatever memory and on every schedule, CodecRoundTrip returns true and its arguments read afterwards as before; there is no further condition. -/
import Derived.Test.YtomiacedailmaaaCV
namespace Go.Proofs.Ytomiacedailmaaa
open Go.ChangeShapes Go.WideShapes Go.ChangeAt Go.RowKit

set_option maxRecDepth 100000 in
set_option maxHeartbeats 3200000 in
theorem round_all (v : V) (l : List UInt8) (A R : Option Addr) (cap cr : Nat) (w : World) (hv : RdV w (· < w.heap.size) v A cap) (hl : Byt w (· < w.heap.size) l R cr) :
    Calls Try.prog 6 #[v.val A cap, .slice R l.length cr] w fun e w' => e = .returned (.bool true) ∧ Below w.heap.size w w' := by
  have HV := Lib.hid hv
  have HL := Lib.hid hl
  clear hv hl
  go_enter Try.func6, Try.ntmps6
  go_wp2_with fail
  obtain ⟨W0, hW0⟩ : ∃ W0, W0 = w.alloc (.cells #[.int .i64 v.k, .int .i64 v.n, .string v.s, .slice A v.l.len cap] 24) := ⟨_, rfl⟩
  rw [← hW0]
  have x0 : W0.heap[w.heap.size]? = some (.cells #[.int .i64 v.k, .int .i64 v.n, .string v.s, .slice A v.l.len cap] 24 (0, 0)) := by rw [hW0]; exact heap_alloc_new w _
  have hz0 : w.heap.size + 1 ≤ W0.heap.size := by rw [hW0]; simp
  have hb0 : Below w.heap.size w W0 := by rw [hW0]; exact (Below.refl _ _).alloc (Nat.le_refl _) _
  clear hW0
  refine (sane_all W0).mono ?_
  rintro e w1 ⟨rfl, hb'⟩
  have x1 := (hb'.block _ (by omega)).trans x0
  have hb1 : Below w.heap.size w w1 := hb0.trans (hb'.mono (by omega))
  have hz1 : w.heap.size + 1 ≤ w1.heap.size := Nat.le_trans hz0 hb'.size
  clear hb' hb0 hz0 x0
  obtain ⟨p0, p1, p2, p3⟩ := box_cells x1
  go_wp2_with fail
  obtain ⟨W2, hW2⟩ : ∃ W2, W2 = w1.alloc (.cells #[.int .i64 v.k, .int .i64 v.n, .string v.s, .slice A v.l.len cap] 24) := ⟨_, rfl⟩
  rw [← hW2]
  have hsl := sl_one (HV.out.keep (S' := (· < w1.heap.size)) fun i hi => ⟨by omega, hb1.block i hi⟩) W2 hW2
  have hb2 : Below w1.heap.size w1 W2 := by rw [hW2]; exact (Below.refl _ _).alloc (Nat.le_refl _) _
  clear hW2 p0 p1 p2 p3
  refine (lfew_all (F.push v .nil) W2.heap.size _ _ W2 hsl (Nat.le_refl _)).mono ?_
  rintro e w3 ⟨rfl, hb'⟩
  have hb13 : Below w1.heap.size w1 w3 := hb2.trans (hb'.mono hb2.size)
  have x3 := (hb13.block _ (by omega)).trans x1
  have hb3 : Below w.heap.size w w3 := hb1.trans (hb13.mono (by omega))
  have hz3 : w.heap.size + 1 ≤ w3.heap.size := Nat.le_trans hz1 hb13.size
  clear hb' hsl hb2 hb13 x1 hb1 hz1
  obtain ⟨p0, p1, p2, p3⟩ := box_cells x3
  obtain ⟨q, hq⟩ : ∃ q, q = allFew (F.push v .nil).toList := ⟨_, rfl⟩
  rw [← hq]
  cases q with
  | false =>
    clear hq
    go_wp2_with fail
    go_ret
    exact ⟨rfl, hb3⟩
  | true =>
  obtain ⟨fd, fe⟩ := allFew_mem hq.symm (v := v) (by simp [F.push, F.toList])
  clear hq
  by_cases h2k : 2000 < l.length
  · go_wp2_with fail
    go_ret
    exact ⟨rfl, hb3⟩
  · have E := Lib.hid (encode_all v w.heap.size A cap w3 (HV.out.below hb3) (by omega) (by omega) (by omega))
    have hlen : l.length ≤ 2000 := by omega
    clear h2k
    go_wp2_with fail
    refine E.out.mono ?_
    rintro e w4 ⟨bv, rfl, ho, hb'⟩
    have x4 := (hb'.block _ (by omega)).trans x3
    have hb4 : Below w.heap.size w w4 := hb3.trans (hb'.mono (by omega))
    have hz4 : w.heap.size + 1 ≤ w4.heap.size := Nat.le_trans hz3 hb'.size
    obtain ⟨Ab, capb, rfl, hyb⟩ := ho.byt
    have HB := Lib.hid (hyb.toB (B := w4.heap.size) fun i hi => hi.2)
    clear ho hyb hb' x3 hb3 hz3 p0 p1 p2 p3 E
    obtain ⟨p0, p1, p2, p3⟩ := box_cells x4
    have C := Lib.hid (check_all v w.heap.size A cap w4 (HV.out.below hb4) (by omega) (by omega))
    go_wp2_with fail
    refine C.out.mono ?_
    rintro e w5 ⟨rfl, hb'⟩
    have x5 := (hb'.block _ (by omega)).trans x4
    have hb5 : Below w.heap.size w w5 := hb4.trans (hb'.mono (by omega))
    have hz5 : w.heap.size + 1 ≤ w5.heap.size := Nat.le_trans hz4 hb'.size
    have HB5 := Lib.hid (HB.out.keep (S' := (· < w4.heap.size)) fun i hi => ⟨hi, hb'.block i hi⟩)
    have hz45 := hb'.size
    clear hb' x4 hb4 hz4 p0 p1 p2 p3 C HB
    obtain ⟨p0, p1, p2, p3⟩ := box_cells x5
    have hw : ∀ w' : World, Below w5.heap.size w5 w' → w'.heap[w.heap.size]? = some (.cells #[.int .i64 v.k, .int .i64 v.n, .string v.s, .slice A v.l.len cap] 24 (0, 0)) := fun w' hb => (hb.block _ (by omega)).trans x5
    by_cases hc : v.chk = 0
    focus
      have hceq : Hid (v.chk = 0) := hc
      have hD : Hid (decP v.enc = some v) := Lib.hid (decP_enc v hc HV.out.fit (by omega))
      have hO : v.out = v.enc := by rw [V.out, if_pos hc]
      rw [hO] at HB5 ⊢
      clear hO
      rw [hc]
      clear hc
      have D := Lib.hid (decode_all w4.heap.size v.enc Ab capb w5 HB5.out hz45 (by omega))
      rw [hD.out] at D
      clear HB5
      go_wp2_with fail
      refine D.out.mono ?_
      rintro e w6 ⟨hb', A6, cap6, rfl, hr⟩
      have x6 := hw _ hb'
      have hb6 : Below w.heap.size w w6 := hb5.trans (hb'.mono (by omega))
      have hz6 : w.heap.size + 1 ≤ w6.heap.size := Nat.le_trans hz5 hb'.size
      have HR6 := Lib.hid (hr.keep (S' := (· < w6.heap.size)) fun i hi => ⟨hi.2, rfl⟩)
      clear hb' hr hw x5 hb5 hz5 p0 p1 p2 p3 D hz45
      have kk : ∀ (o : Obj) i, (w6.alloc o).cell? ⟨w.heap.size, i, none⟩ = (#[Value.int .i64 v.k, .int .i64 v.n, .string v.s, .slice A v.l.len cap] : Array Value)[i]? := fun o i => by
        rw [World.cell?_alloc_past _ _ _ (by show w.heap.size < _; omega), cell_of_row _ _ _ _ _ _ x6]
      have k0 : ∀ (o : Obj), (w6.alloc o).cell? ⟨w.heap.size, 0, none⟩ = some (.int .i64 v.k) := fun o => kk o 0
      have k1 : ∀ (o : Obj), (w6.alloc o).cell? ⟨w.heap.size, 1, none⟩ = some (.int .i64 v.n) := fun o => kk o 1
      have k2 : ∀ (o : Obj), (w6.alloc o).cell? ⟨w.heap.size, 2, none⟩ = some (.string v.s) := fun o => kk o 2
      have k3 : ∀ (o : Obj), (w6.alloc o).cell? ⟨w.heap.size, 3, none⟩ = some (.slice A v.l.len cap) := fun o => kk o 3
      clear kk
      go_wp2_with fail
      obtain ⟨W7, hW7⟩ : ∃ W7, W7 = w6.alloc (.cells #[.int .i64 v.k, .int .i64 v.n, .string v.s, .slice A6 v.l.len cap6] 24) := ⟨_, rfl⟩
      rw [← hW7]
      have y7 : W7.heap[w6.heap.size]? = some (.cells #[.int .i64 v.k, .int .i64 v.n, .string v.s, .slice A6 v.l.len cap6] 24 (0, 0)) := by rw [hW7]; exact heap_alloc_new w6 _
      have hz67 : w6.heap.size + 1 ≤ W7.heap.size := by rw [hW7]; simp
      have hb67 : Below w6.heap.size w6 W7 := by rw [hW7]; exact (Below.refl _ _).alloc (Nat.le_refl _) _
      have x7 := (hb67.block _ (by omega)).trans x6
      have hb7 : Below w.heap.size w W7 := hb6.trans (hb67.mono (by omega))
      have HR7 := Lib.hid (HR6.out.keep (S' := (· < W7.heap.size)) fun i hi => ⟨by omega, hb67.block i hi⟩)
      have HV7 := Lib.hid (HV.out.keep (S' := (· < W7.heap.size)) fun i hi => ⟨by omega, hb7.block i hi⟩)
      clear hW7 k0 k1 k2 k3 hb6 hb67 x6 HR6
      have hsame : v.same v = true := (V.same_iff v v).2 rfl
      refine (same_all v v W7.heap.size A A6 cap cap6 W7 HV7.out HR7.out (Nat.le_refl _)).mono ?_
      rw [hsame]
      rintro e w8 ⟨rfl, hb'⟩
      have x8 := (hb'.block _ (by omega)).trans x7
      have y8 := (hb'.block _ (by omega)).trans y7
      have HR8 := Lib.hid (HR7.out.keep (S' := (· < W7.heap.size)) fun i hi => ⟨hi, hb'.block i hi⟩)
      have HV8 := Lib.hid (HV7.out.keep (S' := (· < W7.heap.size)) fun i hi => ⟨hi, hb'.block i hi⟩)
      have hz8 := hb'.size
      have hb8 : Below w.heap.size w w8 := hb7.trans (hb'.mono (by omega))
      have hz78 : w.heap.size ≤ w8.heap.size := by omega
      clear hb' x7 y7 hb7 HR7 HV7
      obtain ⟨p0, p1, p2, p3⟩ := box_cells x8
      obtain ⟨q0, q1, q2, q3⟩ := box_cells y8
      clear x8 y8
      have S := Lib.hid (rsame_all v v W7.heap.size A A6 cap cap6 w8 HV8.out HR8.out hz8)
      rw [hsame] at S
      clear hsame HV8 HR8
      go_wp2_with fail
      refine S.out.mono ?_
      rintro e wX ⟨rfl, hb'⟩
      have hbX : Below w.heap.size w wX := hb8.trans (hb'.mono hz78)
      clear hb' hb8 p0 p1 p2 p3 q0 q1 q2 q3 S hz78 hz8 hz67 hz6
      go_wp2_with fail
    rotate_left
    focus
      have hne : (v.chk == 0) = false := by simpa using hc
      obtain ⟨wX, hX⟩ : ∃ wX, wX = w5 := ⟨_, rfl⟩
      subst hX
      have hbX := hb5
      clear hw x5 hb5 HB5 hz5 hz45 p0 p1 p2 p3
      go_wp2_with fail
    all_goals
      have D := Lib.hid (decode_all w.heap.size l R cr wX (HL.out.keep (S' := (· < w.heap.size)) fun i hi => ⟨hi, hbX.block i hi⟩) hbX.size (by omega))
      have hzX := hbX.size
      cases hdp : decP l with
      | none =>
        rw [hdp] at D
        clear hdp
        refine D.out.mono ?_
        rintro e w1 ⟨hb', rfl⟩
        have hb1 : Below w.heap.size w w1 := hbX.trans (hb'.mono hzX)
        have hz1 := hb1.size
        clear hb' hbX D
        obtain ⟨W2, hW2⟩ : ∃ W2, W2 = w1.alloc (.cells zero4 24) := ⟨_, rfl⟩
        have hb12 : Below w1.heap.size w1 W2 := by rw [hW2]; exact (Below.refl _ _).alloc (Nat.le_refl _) _
        have hb2 : Below w.heap.size w W2 := hb1.trans (hb12.mono hz1)
        have S := Lib.hid (same_all v0 v0 W2.heap.size none none 0 0 W2 (rdv_leaf ⟨by decide, by decide, by decide, by decide, Nat.zero_le _⟩) (rdv_leaf ⟨by decide, by decide, by decide, by decide, Nat.zero_le _⟩) (Nat.le_refl _))
        rw [(V.same_iff v0 v0).2 rfl] at S
        clear hb1 hb12
        go_wp2_with fail
        rw [show w1.alloc (.cells #[.int .i64 0, .int .i64 0, .string ⟨#[]⟩, .slice none 0 0] 24) = W2 from hW2.symm]
        clear hW2
        refine S.out.mono ?_
        rintro e w3 ⟨rfl, hb'⟩
        have hb3 : Below w.heap.size w w3 := hb2.trans (hb'.mono hb2.size)
        clear hb' hb2 S
        go_wp2_with fail
        go_ret
        exact ⟨rfl, hb3⟩
      | some x =>
        rw [hdp] at D
        obtain ⟨hxc, hxe⟩ := decP_inv hdp
        clear hdp
        have hxd : x.depth ≤ 16 := by
          unfold V.chk at hxc
          split at hxc
          · split at hxc
            · simp at hxc
            · omega
          · simp at hxc
        have hxl : x.enc.length ≤ 2000 := by rw [hxe]; exact hlen
        have hxo : x.out = l := by rw [V.out, if_pos hxc, hxe]
        have HXC : Hid (x.chk = 0) := hxc
        clear hxe hxc
        refine D.out.mono ?_
        rintro e w1 ⟨hb', A9, cap9, rfl, hr⟩
        have hb1 : Below w.heap.size w w1 := hbX.trans (hb'.mono hzX)
        have hz1 := hb1.size
        have HR1 := Lib.hid (hr.keep (S' := (· < w1.heap.size)) fun i hi => ⟨hi.2, rfl⟩)
        clear hb' hr hbX D hzX
        go_wp2_with fail
        obtain ⟨W2, hW2⟩ : ∃ W2, W2 = w1.alloc (.cells #[.int .i64 x.k, .int .i64 x.n, .string x.s, .slice A9 x.l.len cap9] 24) := ⟨_, rfl⟩
        rw [← hW2]
        have y2 : W2.heap[w1.heap.size]? = some (.cells #[.int .i64 x.k, .int .i64 x.n, .string x.s, .slice A9 x.l.len cap9] 24 (0, 0)) := by rw [hW2]; exact heap_alloc_new w1 _
        have hz2 : w1.heap.size + 1 ≤ W2.heap.size := by rw [hW2]; simp
        have hb12 : Below w1.heap.size w1 W2 := by rw [hW2]; exact (Below.refl _ _).alloc (Nat.le_refl _) _
        have hb2 : Below w.heap.size w W2 := hb1.trans (hb12.mono hz1)
        clear hW2 hb1
        refine (encode_all x w1.heap.size A9 cap9 W2 (HR1.out.below hb12) (by omega) (by omega) (by omega)).mono ?_
        rw [HXC.out, hxo]
        rintro e w3 ⟨bv, rfl, ho, hb'⟩
        obtain ⟨Ab, capb, rfl, hyb⟩ := ho.byt
        have HR3 := Lib.hid (HR1.out.keep (S' := (· < w1.heap.size)) fun i hi => ⟨hi, (hb'.block i (by omega)).trans (hb12.block i hi)⟩)
        have y3 := (hb'.block _ (by omega)).trans y2
        have hb3 : Below w.heap.size w w3 := hb2.trans (hb'.mono (by omega))
        have hz3 := hb3.size
        have hz13 : w1.heap.size ≤ w3.heap.size := by have := hb'.size; omega
        have hca := conv_str (n := l.length) hyb rfl
        have hcb := conv_str (n := l.length) (HL.out.keep (S' := (· < w.heap.size)) fun i hi => ⟨hi, hb3.block i hi⟩) rfl
        have C := Lib.hid (check_all x w1.heap.size A9 cap9 w3 HR3.out hz13 (by omega))
        rw [HXC.out] at C
        clear ho hyb hb' y2 hb2 hb12 HR1 HR3 hz13
        obtain ⟨q0, q1, q2, q3⟩ := box_cells y3
        go_wp2_with fail
        refine C.out.mono ?_
        rintro e w4 ⟨rfl, hb'⟩
        have hb4 : Below w.heap.size w w4 := hb3.trans (hb'.mono hz3)
        clear hb' hb3 hca hcb q0 q1 q2 q3 y3 C
        go_wp2_with fail
        go_ret
        exact ⟨rfl, hb4⟩

set_option maxRecDepth 100000 in
theorem round_lifted (os : Os) (started : os.Started) (H : Type) (enc : TypeId × Value → H) :
    ReturnsInHanded {} Try.checked os 6 .any (Rows.codecRoundTripSpec.pre6 enc Try.prog Try.f6 Rows.codecRoundTripRow.domain false) (Rows.codecRoundTripSpec.post enc Try.prog Try.f6 false true false false) := by
  refine returnsInHanded_of_change (C := Try.checked) prog_own started (by kernel_rfl) Try.func6
    (ChangeSpec.witness6 (enc := enc) (C := Try.checked) false ⟨#[], #[.agg #[.int .i64 0, .int .i64 0, .string .empty, .slice none 0 0], .slice none 0 0], []⟩ 8 (by kernel_rfl) (by kernel_rfl) (by kernel_rfl) (by kernel_rfl)) ?_
  intro W base args ds gs before hval0 hW _ _
  have hval : ∀ (j : Nat) t v, Try.f6.params[j]? = some t → args[j]? = some v → Value.okWide Try.prog W .any base t v := hval0
  have hW' : DataW.Whole enc Try.prog Try.f6.params.toList Rows.codecRoundTripSpec.vars false W args.toList ds gs before := hW
  obtain ⟨p, q, hA0, _, _, _, _⟩ := hW
  have hA : DataW.TrodAll enc Try.prog W 0 (fun _ => true) true Try.f6.params.toList args.toList ds p := hA0
  rw [Try.params6] at hA hval
  obtain ⟨v0, v1, d0, d1, p0, p1, rfl, rfl, rfl, h0, h1⟩ := trodAll_two hA
  obtain ⟨x, A, ca, rfl, hx⟩ := arg_val (hval 0 24 v0 rfl rfl) h0
  obtain ⟨l, R, cr, rfl, hl⟩ := arg_bytes (hval 1 27 v1 rfl rfl) h1
  refine (round_all x l A R ca cr W hx hl).mono fun e W' ⟨he, hb⟩ => ?_
  subst he
  exact ⟨_, rfl, law_post rfl (fun ds hd => by
    match ds, hd with
    | [_, _], _ => rfl) (by kernel_rfl) (by
    rw [Try.params6]
    intro t ht
    simp only [List.mem_cons, List.not_mem_nil, or_false] at ht
    rcases ht with rfl | rfl
    · exact p_val
    · exact p_bytes) rfl hW' hb⟩

theorem round_holds : Rows.CodecRoundTripSaid :=
  OpenClaim.holds_of_wide 6 Try.f6 rfl rfl rfl rfl rfl rfl rfl ⟨rfl, rfl, rfl, rfl, rfl⟩ rfl rfl rfl rfl rfl (by kernel_rfl) Try.func6 (by kernel_rfl)
    (of_decide_eq_true (by kernel_rfl)) (by unfold Func.isWrapper; first | (rw [if_pos (by decide +kernel)]; kernel_rfl) | (rw [if_neg (by decide +kernel)]; exact ⟨rfl, rfl⟩))
    (fun os started H enc _ => round_lifted os started H enc)
end Go.Proofs.Ytomiacedailmaaa
