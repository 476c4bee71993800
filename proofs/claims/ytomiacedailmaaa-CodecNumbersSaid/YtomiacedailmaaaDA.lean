/- Proved: for every two integers, in whatever memory and on every schedule, CodecNumbers returns true and its arguments read afterwards as before; there is no further condition. -/
import Derived.Test.YtomiacedailmaaaCY
namespace Go.Proofs.Ytomiacedailmaaa
open Go.ChangeShapes Go.WideShapes Go.ChangeAt Go.RowKit

def vn (n : Int) : V := ⟨1, n, ⟨#[]⟩, .nil⟩
theorem vn_chk (n : Int) : (vn n).chk = 0 := by simp [V.chk, vn, V.wf, wf1, empty_nil, F.len, V.depth, d1]
theorem vn_enc (n : Int) : (vn n).enc = 1 :: numf 10 (uns n).toNat := by simp [V.enc, vn, enc1]
theorem vn_out (n : Int) : (vn n).out = 1 :: numf 10 (uns n).toNat := by rw [V.out, if_pos (vn_chk n), vn_enc]
theorem vn_depth (n : Int) : (vn n).depth = 0 := by simp [V.depth, vn, d1]
theorem vn_fits {n : Int} (h1 : -9223372036854775808 ≤ n) (h2 : n ≤ 9223372036854775807) : Fits (vn n).k (vn n).n (vn n).s := ⟨by show (-9223372036854775808 : Int) ≤ 1; omega, by show (1 : Int) ≤ _; omega, h1, h2, Nat.zero_le _⟩
theorem numf_mono : ∀ (g u u' : Nat), u ≤ u' → (numf g u).length ≤ (numf g u').length
  | 0, _, _, _ => Nat.le_refl _
  | g + 1, u, u', h => by
    rw [numf, numf]
    split
    · split <;> simp
    · rw [if_neg (by omega)]
      have := numf_mono g (u / 128) (u' / 128) (by omega)
      simp; omega

set_option maxRecDepth 100000 in
set_option maxHeartbeats 1600000 in
theorem numbers_all (a b : Int) (w : World) (ha1 : -9223372036854775808 ≤ a) (ha2 : a ≤ 9223372036854775807) (hb1 : -9223372036854775808 ≤ b) (hb2 : b ≤ 9223372036854775807) :
    Calls Try.prog 9 #[.int .i64 a, .int .i64 b] w fun e w' => e = .returned (.bool true) ∧ Below w.heap.size w w' := by
  obtain ⟨m, hm⟩ : ∃ m, m = (vn a).out.length := ⟨_, rfl⟩
  obtain ⟨n, hn⟩ : ∃ n, n = (vn b).out.length := ⟨_, rfl⟩
  have hm1 : 2 ≤ m ∧ m ≤ 11 := by
    rw [hm, vn_out, List.length_cons]
    have := numf_len 10 (uns a).toNat
    have : 0 < (numf 10 (uns a).toNat).length := numf_pos 9 (uns a).toNat
    omega
  have hn1 : 2 ≤ n ∧ n ≤ 11 := by
    rw [hn, vn_out, List.length_cons]
    have := numf_len 10 (uns b).toNat
    have : 0 < (numf 10 (uns b).toNat).length := numf_pos 9 (uns b).toNat
    omega
  have hmn : (0 ≤ a → a ≤ b → m ≤ n) ∧ (a < 0 → b ≤ a → m ≤ n) := by
    constructor
    · intro h1 h2
      rw [hm, hn, vn_out, vn_out, List.length_cons, List.length_cons]
      have := numf_mono 10 (uns a).toNat (uns b).toNat (by rw [uns_pos h1, uns_pos (by omega)]; omega)
      omega
    · intro h1 h2
      rw [hm, hn, vn_out, vn_out, List.length_cons, List.length_cons]
      have := numf_mono 10 (uns a).toNat (uns b).toNat (by rw [uns_neg h1, uns_neg (by omega)]; omega)
      omega
  have el : ∀ x : Int, (vn x).enc.length + 20 < 1099511627776 := fun x => by rw [vn_enc, List.length_cons]; have := numf_len 10 (uns x).toNat; omega
  have S := fun (x : Int) (h1 : -9223372036854775808 ≤ x) (h2 : x ≤ 9223372036854775807) (ww : World) => size_all (vn x) ww.heap.size none 0 ww (rdv_leaf (vn_fits h1 h2)) (Nat.le_refl _) (by rw [vn_depth]; omega) (el x)
  have E := fun (x : Int) (h1 : -9223372036854775808 ≤ x) (h2 : x ≤ 9223372036854775807) (ww : World) => encode_all (vn x) ww.heap.size none 0 ww (rdv_leaf (vn_fits h1 h2)) (Nat.le_refl _) (by rw [vn_depth]; omega) (el x)
  have SA := Lib.hid (S a ha1 ha2)
  have SB := Lib.hid (S b hb1 hb2)
  have EA := Lib.hid (E a ha1 ha2)
  have HD := Lib.hid (decP_enc (vn a) (vn_chk a) ⟨vn_fits ha1 ha2, trivial⟩ (by have := el a; omega))
  have HOE : Hid ((vn a).out = (vn a).enc) := by show _ = _; rw [vn_out, vn_enc]
  have HL := Lib.hid (el a)
  have HM := Lib.hid hm
  have HN := Lib.hid hn
  have hm0 := hm1.1
  have hm2 := hm1.2
  have hn0 := hn1.1
  have hn2 := hn1.2
  clear S E hm hn hm1 hn1 el
  go_enter Try.func9, Try.ntmps9
  go_wp2_with fail
  refine (sane_all w).mono ?_
  rintro e w1 ⟨rfl, hb⟩
  go_wp2_with fail
  refine (rInt_all _ _).mono ?_
  rintro e w2 ⟨rfl, hb', _⟩
  have hbb2 := hb.trans (hb'.mono hb.size)
  clear hb hb'
  go_wp2_with fail
  refine (SA.out _).mono ?_
  rw [vn_chk, ← HM.out]
  rintro e w3 ⟨rfl, hb'⟩
  have hbb3 := hbb2.trans (hb'.mono hbb2.size)
  clear hbb2 hb'
  go_wp2_with fail
  refine (rInt_all _ _).mono ?_
  rintro e w4 ⟨rfl, hb', _⟩
  have hbb4 := hbb3.trans (hb'.mono hbb3.size)
  clear hbb3 hb'
  go_wp2_with fail
  refine (SB.out _).mono ?_
  rw [vn_chk, ← HN.out]
  rintro e w5 ⟨rfl, hb'⟩
  have hbb5 := hbb4.trans (hb'.mono hbb4.size)
  clear hbb4 hb'
  have hc : (0 ≤ a ∧ a ≤ b ∧ m ≤ n) ∨ (0 ≤ a ∧ b < a) ∨ (a < 0 ∧ b ≤ a ∧ m ≤ n) ∨ (a < 0 ∧ a < b) := by
    by_cases h0 : 0 ≤ a
    · by_cases h1 : a ≤ b
      · exact .inl ⟨h0, h1, hmn.1 h0 h1⟩
      · exact .inr (.inl ⟨h0, by omega⟩)
    · by_cases h1 : b ≤ a
      · exact .inr (.inr (.inl ⟨by omega, h1, hmn.2 (by omega) h1⟩))
      · exact .inr (.inr (.inr ⟨by omega, by omega⟩))
  clear hmn
  have hbW := hbb5
  clear hbb5
  rcases hc with ⟨c1, c2, c3⟩ | ⟨c1, c2⟩ | ⟨c1, c2, c3⟩ | ⟨c1, c2⟩
  all_goals
    go_wp2_with fail
    refine (rInt_all _ _).mono ?_
    rintro e w6 ⟨rfl, hb', _⟩
    have hbb6 := hbW.trans (hb'.mono hbW.size)
    clear hb' hbW
    go_wp2_with fail
    refine (EA.out _).mono ?_
    rw [vn_chk, HOE.out]
    rintro e w7 ⟨bv, rfl, ho, hb'⟩
    obtain ⟨A, cap, rfl, hy⟩ := ho.byt
    have hbb7 := hbb6.trans (hb'.mono hbb6.size)
    have D := Lib.hid (decode_all w7.heap.size (vn a).enc A cap w7 (hy.toB fun i hi => hi.2) (Nat.le_refl _) (by have := HL.out; omega))
    rw [HD.out] at D
    clear hb' ho hy hbb6
    go_wp2_with fail
    refine D.out.mono ?_
    rintro e w8 ⟨hb', A', cap', rfl, hrv⟩
    have hbb8 := hbb7.trans (hb'.mono hbb7.size)
    clear hb' hrv hbb7
    go_wp2_with fail
    go_ret
    exact ⟨ret_bool (show (vn a).s.toList.isEmpty = true from empty_nil), hbb8.alloc hbb8.size _⟩

set_option maxRecDepth 100000 in
theorem numbers_lifted (os : Os) (started : os.Started) (H : Type) (enc : TypeId × Value → H) :
    ReturnsInHanded {} Try.checked os 9 .any (Rows.codecNumbersSpec.pre6 enc Try.prog Try.f9 Rows.codecNumbersRow.domain false) (Rows.codecNumbersSpec.post enc Try.prog Try.f9 false true false false) := by
  refine returnsInHanded_of_change (C := Try.checked) prog_own started (by kernel_rfl) Try.func9
    (ChangeSpec.witness6 (enc := enc) (C := Try.checked) false ⟨#[], #[.int .i64 0, .int .i64 0], []⟩ 8 (by kernel_rfl) (by kernel_rfl) (by kernel_rfl) (by kernel_rfl)) ?_
  intro W base args ds gs before hval0 hW _ _
  have hval : ∀ (j : Nat) t v, Try.f9.params[j]? = some t → args[j]? = some v → Value.okWide Try.prog W .any base t v := hval0
  have hW' : DataW.Whole enc Try.prog Try.f9.params.toList Rows.codecNumbersSpec.vars false W args.toList ds gs before := hW
  obtain ⟨p, q, hA0, _, _, _, _⟩ := hW
  have hA : DataW.TrodAll enc Try.prog W 0 (fun _ => true) true Try.f9.params.toList args.toList ds p := hA0
  rw [Try.params9] at hA hval
  obtain ⟨v0, v1, d0, d1, p0, p1, rfl, rfl, rfl, h0, h1⟩ := trodAll_two hA
  obtain ⟨a, rfl, rfl, rfl, wa⟩ := open_int Try.underlying3 (hval 0 3 v0 rfl rfl) h0
  obtain ⟨b, rfl, rfl, rfl, wb⟩ := open_int Try.underlying3 (hval 1 3 v1 rfl rfl) h1
  have ba := bounds_i64 wa
  have bb := bounds_i64 wb
  refine (numbers_all a b W ba.1 ba.2 bb.1 bb.2).mono fun e W' ⟨he, hb⟩ => ?_
  subst he
  exact ⟨_, rfl, law_post rfl (fun ds hd => by
    match ds, hd with
    | [_, _], _ => rfl) (by kernel_rfl) (by rw [Try.params9]; intro t ht; simp at ht; subst ht; exact p_int) rfl hW' hb⟩

theorem numbers_holds : Rows.CodecNumbersSaid :=
  OpenClaim.holds_of_wide 9 Try.f9 rfl rfl rfl rfl rfl rfl rfl ⟨rfl, rfl, rfl, rfl, rfl⟩ rfl rfl rfl rfl rfl (by kernel_rfl) Try.func9 (by kernel_rfl)
    (of_decide_eq_true (by kernel_rfl)) (by unfold Func.isWrapper; first | (rw [if_pos (by decide +kernel)]; kernel_rfl) | (rw [if_neg (by decide +kernel)]; exact ⟨rfl, rfl⟩))
    (fun os started H enc _ => numbers_lifted os started H enc)
end Go.Proofs.Ytomiacedailmaaa
