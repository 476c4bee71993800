/- Proved: for every two values that can be read as data (none holds itself), in whatever memory and on every schedule, CodecDifferent returns true and its arguments read afterwards as before; there is no further condition. -/
import Derived.Test.YtomiacedailmaaaCV
import Derived.BigQuiet
namespace Go.Proofs.Ytomiacedailmaaa
open Go.ChangeShapes Go.WideShapes Go.ChangeAt Go.RowKit

theorem chk_zero {v : V} (h : v.chk = 0) : v.wf = true ∧ v.depth ≤ 16 := by
  unfold V.chk at h
  split at h
  · split at h
    · simp at h
    · exact ⟨by assumption, by omega⟩
  · simp at h
theorem prefix_eq {v u : V} (hv : v.chk = 0) (hu : u.chk = 0) (fv : v.fit) (fu : u.fit) (lv : v.enc.length ≤ 60000) (lu : u.enc.length ≤ 60000) {r : List UInt8} (h : u.enc = v.enc ++ r) : v = u := by
  have a := valP_enc v (chk_zero hv).1 fv 16 (chk_zero hv).2 (Nat.le_refl _) (by omega) r
  have b := valP_enc u (chk_zero hu).1 fu 16 (chk_zero hu).2 (Nat.le_refl _) (by omega) []
  rw [List.append_nil, h, a] at b
  injection b with b
  injection b
theorem apart_enc {v u : V} (hv : v.chk = 0) (hu : u.chk = 0) (fv : v.fit) (fu : u.fit) (lv : v.enc.length ≤ 60000) (lu : u.enc.length ≤ 60000) (hne : v ≠ u) (n : Nat) (hn : v.enc.length ≤ n ∨ u.enc.length ≤ n) : v.enc.take n ≠ u.enc.take n ∨ (v.enc.length < n ∧ u.enc.length < n) := by
  by_cases h : v.enc.take n = u.enc.take n
  · exfalso
    rcases hn with hn | hn
    · rw [List.take_of_length_le hn] at h
      exact hne (prefix_eq hv hu fv fu lv lu (r := u.enc.drop n) (by rw [h, List.take_append_drop]))
    · rw [List.take_of_length_le hn] at h
      exact hne (prefix_eq hu hv fu fv lu lv (r := v.enc.drop n) (by rw [← h, List.take_append_drop])).symm
  · exact .inl h

theorem below_drewN {B : Nat} {a w : World} (h : Below B a w) (n : Nat) : Below B a (w.drewN n) := ⟨h.os, h.tape, h.output, h.size, h.block⟩
theorem Byt.take {w : World} {S : Nat → Prop} {l : List UInt8} {A : Option Addr} {cap : Nat} (h : Byt w S l A cap) (n : Nat) : Byt w S (l.take n) A cap := by
  refine ⟨Nat.le_trans (by rw [List.length_take]; omega) h.1, h.2.1, fun hp => ?_⟩
  rw [List.length_take] at hp
  obtain ⟨b, o, e, hS, hc⟩ := h.2.2 (by omega)
  refine ⟨b, o, e, hS, fun i u hu => hc i u ?_⟩
  have hi : i < (U (l.take n)).length := by
    by_cases h : i < (U (l.take n)).length
    · exact h
    · rw [List.getElem?_eq_none (by omega)] at hu; cases hu
  rw [U_length, List.length_take] at hi
  rw [U, List.getElem?_map] at hu ⊢
  rw [List.getElem?_take, if_pos (by omega)] at hu
  exact hu

set_option maxRecDepth 100000 in
set_option maxHeartbeats 3200000 in
theorem different_all (a b : V) (A B : Option Addr) (ca cb : Nat) (w : World) (ha : RdV w (· < w.heap.size) a A ca) (hb : RdV w (· < w.heap.size) b B cb) :
    Calls Try.prog 7 #[a.val A ca, b.val B cb] w fun e w' => e = .returned (.bool true) ∧ Below w.heap.size w w' := by
  have HA := Lib.hid ha
  have HB := Lib.hid hb
  clear ha hb
  go_enter Try.func7, Try.ntmps7
  go_wp2_with fail
  obtain ⟨W1, hW1, c0, c1, hz, hb, b0, b1⟩ := two_boxes w #[.int .i64 a.k, .int .i64 a.n, .string a.s, .slice A a.l.len ca] #[.int .i64 b.k, .int .i64 b.n, .string b.s, .slice B b.l.len cb] 24 24
  rw [← hW1]
  clear hW1 c0 c1
  refine (sane_all W1).mono ?_
  rintro e w1 ⟨rfl, hb'⟩
  have x1 := (hb'.block _ (by omega)).trans b0
  have y1 := (hb'.block _ (by omega)).trans b1
  have hb1 : Below w.heap.size w w1 := hb.trans (hb'.mono (by omega))
  have hz1 : w.heap.size + 2 ≤ w1.heap.size := by have := hb'.size; omega
  clear hb' hb hz b0 b1
  obtain ⟨p0, p1, p2, p3⟩ := box_cells x1
  obtain ⟨q0, q1, q2, q3⟩ := box_cells y1
  go_wp2_with fail
  obtain ⟨W2, hW2⟩ : ∃ W2, W2 = w1.alloc (.cells #[.int .i64 a.k, .int .i64 a.n, .string a.s, .slice A a.l.len ca, .int .i64 b.k, .int .i64 b.n, .string b.s, .slice B b.l.len cb] 24) := ⟨_, rfl⟩
  rw [← hW2]
  have hsl := sl_two (HA.out.keep (S' := (· < w1.heap.size)) fun i hi => ⟨by omega, hb1.block i hi⟩) (HB.out.keep (S' := (· < w1.heap.size)) fun i hi => ⟨by omega, hb1.block i hi⟩) W2 hW2
  have hb2 : Below w1.heap.size w1 W2 := by rw [hW2]; exact (Below.refl _ _).alloc (Nat.le_refl _) _
  clear hW2 p0 p1 p2 p3 q0 q1 q2 q3
  refine (lfew_all (F.push a (F.push b .nil)) W2.heap.size _ _ W2 hsl (Nat.le_refl _)).mono ?_
  rintro e w3 ⟨rfl, hb'⟩
  have hb13 : Below w1.heap.size w1 w3 := hb2.trans (hb'.mono hb2.size)
  have x3 := (hb13.block _ (by omega)).trans x1
  have y3 := (hb13.block _ (by omega)).trans y1
  have hb3 : Below w.heap.size w w3 := hb1.trans (hb13.mono (by omega))
  have hz3 : w.heap.size + 2 ≤ w3.heap.size := Nat.le_trans hz1 hb13.size
  clear hb' hsl hb2 hb13 x1 y1 hb1 hz1
  obtain ⟨q, hq⟩ : ∃ q, q = allFew (F.push a (F.push b .nil)).toList := ⟨_, rfl⟩
  rw [← hq]
  cases q with
  | false =>
    clear hq
    go_wp2_with fail
    go_ret
    exact ⟨rfl, hb3⟩
  | true =>
  obtain ⟨da, la⟩ := allFew_mem hq.symm (v := a) (by simp [F.push, F.toList])
  obtain ⟨db, lb⟩ := allFew_mem hq.symm (v := b) (by simp [F.push, F.toList])
  clear hq
  obtain ⟨p0, p1, p2, p3⟩ := box_cells x3
  have E1 := Lib.hid (encode_all a w.heap.size A ca w3 (HA.out.below hb3) (by omega) (by omega) (by omega))
  go_wp2_with fail
  refine E1.out.mono ?_
  rintro e w4 ⟨bv, rfl, ho, hb'⟩
  obtain ⟨Aa, capa, rfl, hya⟩ := ho.byt
  have HYA := Lib.hid (hya.toB (B := w4.heap.size) fun i hi => hi.2)
  have x4 := (hb'.block _ (by omega)).trans x3
  have y4 := (hb'.block _ (by omega)).trans y3
  have hb4 : Below w.heap.size w w4 := hb3.trans (hb'.mono (by omega))
  have hz4 : w.heap.size + 2 ≤ w4.heap.size := Nat.le_trans hz3 hb'.size
  clear ho hya hb' x3 y3 hb3 hz3 p0 p1 p2 p3 E1
  obtain ⟨q0, q1, q2, q3⟩ := box_cells y4
  have E2 := Lib.hid (encode_all b w.heap.size B cb w4 (HB.out.below hb4) (by omega) (by omega) (by omega))
  go_wp2_with fail
  refine E2.out.mono ?_
  rintro e w5 ⟨bv, rfl, ho, hb'⟩
  obtain ⟨Ab, capb, rfl, hyb⟩ := ho.byt
  have HYB := Lib.hid (hyb.toB (B := w5.heap.size) fun i hi => hi.2)
  have HYA5 := Lib.hid (HYA.out.keep (S' := (· < w4.heap.size)) fun i hi => ⟨hi, hb'.block i hi⟩)
  have hz45 := hb'.size
  have x5 := (hb'.block _ (by omega)).trans x4
  have y5 := (hb'.block _ (by omega)).trans y4
  have hb5 : Below w.heap.size w w5 := hb4.trans (hb'.mono (by omega))
  have hz5 : w.heap.size + 2 ≤ w5.heap.size := Nat.le_trans hz4 hb'.size
  clear ho hyb hb' x4 y4 hb4 hz4 q0 q1 q2 q3 E2 HYA
  by_cases hca : a.chk = 0
  · have HCA : Hid (a.chk = 0) := hca
    have HOA : Hid (a.out = a.enc) := by show a.out = a.enc; rw [V.out, if_pos hca]
    rw [HCA.out, HOA.out]
    rw [HOA.out] at HYA5
    clear hca
    by_cases hcb : b.chk = 0
    · have HCB : Hid (b.chk = 0) := hcb
      have HOB : Hid (b.out = b.enc) := by show b.out = b.enc; rw [V.out, if_pos hcb]
      rw [HCB.out, HOB.out]
      rw [HOB.out] at HYB
      clear hcb
      obtain ⟨p0, p1, p2, p3⟩ := box_cells x5
      obtain ⟨q0, q1, q2, q3⟩ := box_cells y5
      have S := Lib.hid (same_all a b w.heap.size A B ca cb w5 (HA.out.below hb5) (HB.out.below hb5) (by omega))
      go_wp2_with fail
      refine S.out.mono ?_
      rintro e w6 ⟨rfl, hb'⟩
      have hb6 : Below w.heap.size w w6 := hb5.trans (hb'.mono (by omega))
      have HA6 := Lib.hid (HYA5.out.keep (S' := (· < w4.heap.size)) fun i hi => ⟨hi, hb'.block i (by omega)⟩)
      have HB6 := Lib.hid (HYB.out.keep (S' := (· < w5.heap.size)) fun i hi => ⟨hi, hb'.block i hi⟩)
      clear hb' hb5 x5 y5 p0 p1 p2 p3 q0 q1 q2 q3 S hz5 hz45 HYA5 HYB
      by_cases hab : a = b
      · subst hab
        rw [(V.same_iff a a).2 rfl]
        have hcv := conv_str HA6.out rfl
        have hcw := conv_str HB6.out rfl
        go_wp2_with fail
        go_ret
        exact ⟨rfl, hb6⟩
      · have hs : a.same b = false := by
          cases h : a.same b
          · rfl
          · exact absurd ((V.same_iff a b).1 h) hab
        rw [hs]
        clear hs
        have HAP := Lib.hid (apart_enc HCA.out HCB.out HA.out.fit HB.out.fit la lb hab)
        have hka := HA6.out.1
        have hka2 := HA6.out.2.1
        have hkb := HB6.out.1
        have hkb2 := HB6.out.2.1
        unfold maxLen at hka2 hkb2
        obtain ⟨ba, oa, rfl, _, _⟩ := HA6.out.2.2 (enc_pos _)
        obtain ⟨bb, ob, rfl, _, _⟩ := HB6.out.2.2 (enc_pos _)
        by_cases hlt : b.enc.length < a.enc.length
        · have hcv := fun k => conv_str (w := w6.drewN k) (n := b.enc.length) ((HA6.out.take b.enc.length).keep (S' := (· < w4.heap.size)) fun i hi => ⟨hi, rfl⟩) (by rw [List.length_take]; omega)
          have hcw := fun k => conv_str (w := w6.drewN k) (n := b.enc.length) ((HB6.out.take b.enc.length).keep (S' := (· < w5.heap.size)) fun i hi => ⟨hi, rfl⟩) (by rw [List.length_take]; omega)
          have hap : ¬ (a.enc.take b.enc.length = b.enc.take b.enc.length) := by
            rcases HAP.out b.enc.length (.inr (Nat.le_refl _)) with h | h
            · exact h
            · omega
          have hap1 : (!List.take b.enc.length a.enc == b.enc) = true := by
            rw [List.take_of_length_le (Nat.le_refl _)] at hap
            simpa using hap
          clear hap
          go_wp2_with fail
          go_quiet (fail)
          go_wp2
          go_ret
          exact ⟨rfl, below_drewN hb6 _⟩
        · have hcv := fun k => conv_str (w := w6.drewN k) (n := a.enc.length) ((HA6.out.take a.enc.length).keep (S' := (· < w4.heap.size)) fun i hi => ⟨hi, rfl⟩) (by rw [List.length_take]; omega)
          have hcw := fun k => conv_str (w := w6.drewN k) (n := a.enc.length) ((HB6.out.take a.enc.length).keep (S' := (· < w5.heap.size)) fun i hi => ⟨hi, rfl⟩) (by rw [List.length_take]; omega)
          have hap : ¬ (a.enc.take a.enc.length = b.enc.take a.enc.length) := by
            rcases HAP.out a.enc.length (.inl (Nat.le_refl _)) with h | h
            · exact h
            · omega
          have hap1 : (!a.enc == List.take a.enc.length b.enc) = true := by
            rw [List.take_of_length_le (Nat.le_refl _)] at hap
            simpa using hap
          clear hap
          go_wp2_with fail
          go_quiet (fail)
          go_wp2
          go_ret
          exact ⟨rfl, below_drewN hb6 _⟩
    · have hne : (b.chk != 0) = true := by simpa using hcb
      go_wp2_with fail
      go_ret
      exact ⟨rfl, hb5⟩
  · have hne : (a.chk != 0) = true := by simpa using hca
    go_wp2_with fail
    go_ret
    exact ⟨rfl, hb5⟩

set_option maxRecDepth 100000 in
theorem different_lifted (os : Os) (started : os.Started) (H : Type) (enc : TypeId × Value → H) :
    ReturnsInHanded {} Try.checked os 7 .any (Rows.codecDifferentSpec.pre6 enc Try.prog Try.f7 Rows.codecDifferentRow.domain false) (Rows.codecDifferentSpec.post enc Try.prog Try.f7 false true false false) := by
  refine returnsInHanded_of_change (C := Try.checked) prog_own started (by kernel_rfl) Try.func7
    (ChangeSpec.witness6 (enc := enc) (C := Try.checked) false ⟨#[], #[.agg #[.int .i64 0, .int .i64 0, .string .empty, .slice none 0 0], .agg #[.int .i64 0, .int .i64 0, .string .empty, .slice none 0 0]], []⟩ 8 (by kernel_rfl) (by kernel_rfl) (by kernel_rfl) (by kernel_rfl)) ?_
  intro W base args ds gs before hval0 hW _ _
  have hval : ∀ (j : Nat) t v, Try.f7.params[j]? = some t → args[j]? = some v → Value.okWide Try.prog W .any base t v := hval0
  have hW' : DataW.Whole enc Try.prog Try.f7.params.toList Rows.codecDifferentSpec.vars false W args.toList ds gs before := hW
  obtain ⟨p, q, hA0, _, _, _, _⟩ := hW
  have hA : DataW.TrodAll enc Try.prog W 0 (fun _ => true) true Try.f7.params.toList args.toList ds p := hA0
  rw [Try.params7] at hA hval
  obtain ⟨v0, v1, d0, d1, p0, p1, rfl, rfl, rfl, h0, h1⟩ := trodAll_two hA
  obtain ⟨x0, A0, c0, rfl, hx0⟩ := arg_val (hval 0 24 v0 rfl rfl) h0
  obtain ⟨x1, A1, c1, rfl, hx1⟩ := arg_val (hval 1 24 v1 rfl rfl) h1
  refine (different_all x0 x1 A0 A1 c0 c1 W hx0 hx1).mono fun e W' ⟨he, hb⟩ => ?_
  subst he
  exact ⟨_, rfl, law_post rfl (fun ds hd => by
    match ds, hd with
    | [_, _], _ => rfl) (by kernel_rfl) (by
    rw [Try.params7]
    intro t ht
    simp only [List.mem_cons, List.not_mem_nil, or_false, or_self] at ht
    rcases ht with rfl
    · exact p_val) rfl hW' hb⟩

theorem different_holds : Rows.CodecDifferentSaid :=
  OpenClaim.holds_of_wide 7 Try.f7 rfl rfl rfl rfl rfl rfl rfl ⟨rfl, rfl, rfl, rfl, rfl⟩ rfl rfl rfl rfl rfl (by kernel_rfl) Try.func7 (by kernel_rfl)
    (of_decide_eq_true (by kernel_rfl)) (by unfold Func.isWrapper; first | (rw [if_pos (by decide +kernel)]; kernel_rfl) | (rw [if_neg (by decide +kernel)]; exact ⟨rfl, rfl⟩))
    (fun os started H enc _ => different_lifted os started H enc)
end Go.Proofs.Ytomiacedailmaaa
