/- Proved: for every slice of spans that can be read as data and every three numbers, in whatever memory and on every schedule, SpansCovers returns true and its arguments read afterwards as before; there is no further condition. -/
import Derived.Test.YtofjbplojhlnoaaSP
namespace Go.Proofs.Ytofjbplojhlnoaa
open Go.ChangeShapes Go.WideShapes Go.ChangeAt Go.RowKit


theorem cov_iff (L : List Sp) (a b : Int) (h : a < b) : cov L (a, b) = true ↔ ∀ m : Int, a ≤ m → m < b → hit (nm L) m = true := by
  have : cov L (a, b) = (nm L).any (wide a b) := by simp [cov]; omega
  rw [this]
  exact cover (nm L) (rn_apart _ _) (fun p hp => (rn_lo _ _ p hp).2.1) a b h
theorem hit_nm (L : List Sp) (m : Nat) (h : m < 1024) : hit (nm L) m = hit L m := by
  have := rn_hit (dy L) 0 m
  rw [show nm L = rn 0 (dy L) from rfl, this]
  simp [List.getD_eq_getElem?_getD, dy, h]
theorem hit_out (L : List Sp) (m : Int) (h : m < 0 ∨ 1024 ≤ m) : hit (nm L) m = false := by
  rw [hit_in, List.any_eq_false]
  intro p hp
  have := rn_lo (dy L) 0 p hp
  rw [dy_len] at this
  simp [in_]
  omega
theorem cov_nat (L : List Sp) (a b : Nat) (h : a < b) (hb : b ≤ 1024) : cov L ((a : Int), (b : Int)) = true ↔ ∀ m : Nat, a ≤ m → m < b → hit L m = true := by
  rw [cov_iff L a b (by omega)]
  constructor
  · intro hh m h1 h2
    rw [← hit_nm L m (by omega)]
    exact hh m (by omega) (by omega)
  · intro hh m h1 h2
    obtain ⟨k, rfl⟩ : ∃ k : Nat, m = k := ⟨m.toNat, by omega⟩
    rw [hit_nm L k (by omega)]
    exact hh k (by omega) (by omega)
theorem cov_empty (L : List Sp) (a b : Int) (h : b ≤ a) : cov L (a, b) = true := by simp [cov, h]
theorem cov_two (L : List Sp) (a m b : Nat) (h1 : a ≤ m) (h2 : m ≤ b) (h : a < b) (hb : b ≤ 1024) : (cov L ((a : Int), (m : Int)) && cov L ((m : Int), (b : Int))) = cov L ((a : Int), (b : Int)) := by
  rw [Bool.eq_iff_iff, Bool.and_eq_true, cov_nat L a b h hb]
  by_cases ha : a < m
  · by_cases hm : m < b
    · rw [cov_nat L a m ha (by omega), cov_nat L m b hm hb]
      constructor
      · rintro ⟨x, y⟩ k k1 k2
        by_cases hk : k < m
        · exact x k k1 hk
        · exact y k (by omega) k2
      · intro x
        exact ⟨fun k k1 k2 => x k k1 (by omega), fun k k1 k2 => x k (by omega) k2⟩
    · obtain rfl : m = b := by omega
      rw [cov_nat L a m ha hb]
      simp [cov_empty]
  · obtain rfl : a = m := by omega
    rw [cov_nat L a b h hb]
    simp [cov_empty]
theorem cov_far (L : List Sp) (a b : Int) (h : a < b) (hb : 1024 < b) : cov L (a, b) = false := by
  cases hc : cov L (a, b) with
  | false => rfl
  | true =>
    have := (cov_iff L a b h).1 hc (b - 1) (by omega) (by omega)
    rw [hit_out L (b - 1) (by omega)] at this
    cases this
theorem cov_minus (L : List Sp) (a b : Nat) (h : a < b) (hb : b ≤ 1024) : decide ((rn 0 (zw (fun x y => x && !y) [((a : Int), (b : Int))] L)).length = 0) = cov L ((a : Int), (b : Int)) := by
  rw [Bool.eq_iff_iff, cov_nat L a b h hb, decide_eq_true_iff, List.length_eq_zero_iff]
  have hh : ∀ m : Nat, hit [((a : Int), (b : Int))] m = (decide (a ≤ m) && decide (m < b)) := fun m => by
    rw [Bool.eq_iff_iff]
    simp [hit]
  constructor
  · intro h0 m h1 h2
    have := hit_zw (fun x y => x && !y) [((a : Int), (b : Int))] L m (by omega)
    rw [h0, hh m] at this
    simp [hit, h1, h2] at this
    simpa [hit] using this
  · intro hx
    refine zw_nil fun m hm => ?_
    rw [hh m]
    by_cases h1 : a ≤ m ∧ m < b
    · simp [h1, hx m h1.1 h1.2]
    · simp
      intro h2 h3
      exact absurd ⟨h2, h3⟩ h1
set_option maxRecDepth 100000 in
set_option maxHeartbeats 8000000 in
theorem covers3_all (L : List Sp) (m1 m2 m3 : Nat) (A_L : Option Addr) (c_L : Nat) (w : World) (hm1 : m1 < 65536) (hm2 : m2 < 65536) (hm3 : m3 < 65536) (sL : SL w (· < w.heap.size) L A_L c_L) :
    Calls Try.prog 8 #[.slice A_L L.length c_L, .int .u16 m1, .int .u16 m2, .int .u16 m3] w fun e w' => e = .returned (.bool true) ∧ Below w.heap.size w w' := by
  have S_L := Lib.hid sL
  clear sL
  have W0 := Lib.hid (Below.refl w.heap.size w)
  go_enter Try.func8, Try.ntmps8
  go_wp2_with fail
  have CC := sane_all w
  refine CC.mono ?_
  clear CC
  rintro e w1 ⟨rfl, hb⟩
  have W1 := Lib.hid (W0.out.trans (hb.mono W0.out.size))
  have T_L := Lib.hid (S_L.out.up hb)
  clear S_L
  have S_L := T_L
  clear T_L
  clear hb W0
  by_cases hL' : L.length ≤ 40
  case neg =>
    go_wp2_with fail
    refine (few_no L A_L c_L hL' _).mono ?_
    rintro e w' ⟨rfl, hw'⟩
    rw [hw']
    clear hw' w'
    go_wp2_with fail
    go_ret
    exact ⟨rfl, W1.out⟩
  go_wp2_with fail
  refine (few_yes L A_L c_L hL' _).mono ?_
  rintro e w' ⟨rfl, hw'⟩
  rw [hw']
  clear hw' w'
  have hL : L.length ≤ 1000000 := by omega
  obtain ⟨a, ha⟩ : ∃ a : Nat, a = m1 % 1025 := ⟨_, rfl⟩
  obtain ⟨b, hb'⟩ : ∃ b : Nat, b = m2 % 1025 := ⟨_, rfl⟩
  have ea : (m1 : Int) % 1025 = a := by omega
  have eb : (m2 : Int) % 1025 = b := by omega
  have ha2 : a ≤ 1024 := by omega
  have hb2 : b ≤ 1024 := by omega
  have HA := Lib.hid ha
  have HB := Lib.hid hb'
  clear ha hb'
  have hbw : Below w1.heap.size w1 (w1.alloc (.cells #[.int .i64 a, .int .i64 b] 32)) := (Below.refl _ _).alloc (Nat.le_refl _) _
  have S_L2 := Lib.hid (S_L.out.up hbw)
  clear S_L
  have S_L := S_L2
  clear S_L2
  have W9 := Lib.hid (W1.out.trans (hbw.mono W1.out.size))
  have BX := Lib.hid (show BoxS (w1.alloc (.cells #[.int .i64 a, .int .i64 b] 32)) w1.heap.size ((a : Int), (b : Int)) from heap_alloc_new w1 _)
  clear hbw
  go_wp2_with fail
  generalize hWX : w1.alloc _ = WX
  rw [hWX] at S_L W9 BX
  clear hWX
  have CC := covers_all L A_L c_L (a : Int) (b : Int) WX (by omega) S_L.out
  refine CC.mono ?_
  clear CC
  rintro e wa ⟨rfl, hb⟩
  have S_L2 := Lib.hid (S_L.out.up hb)
  clear S_L
  have S_L := S_L2
  clear S_L2
  have hzx := W9.out.size
  have BX2 := Lib.hid (show BoxS wa _ ((a : Int), (b : Int)) from (hb.block _ (Array.getElem?_eq_some_iff.1 BX.out).1).trans BX.out)
  have WA := Lib.hid (W9.out.trans (hb.mono hzx))
  clear hb BX W9
  by_cases hab : b ≤ a
  · have HC := Lib.hid (cov_empty L (a : Int) (b : Int) (by omega))
    have hab2 : (b : Int) ≤ a := by omega
    go_wp2_with fail
    go_ret
    exact ⟨ret_bool HC.out, WA.out⟩
  obtain ⟨m, hm⟩ : ∃ m : Nat, m = a + m3 % (b - a + 1) := ⟨_, rfl⟩
  have hmod : m3 % (b - a + 1) < b - a + 1 := Nat.mod_lt _ (by omega)
  have em : (a : Int) + (m3 : Int) % ((b : Int) - a + 1) = m := by
    have e1 : ((m3 % (b - a + 1) : Nat) : Int) = (m3 : Int) % ((b - a + 1 : Nat) : Int) := rfl
    rw [hm, Int.natCast_add, e1, show ((b - a + 1 : Nat) : Int) = (b : Int) - a + 1 by omega]
  have hma : a ≤ m := by omega
  have hmb : m ≤ b := by omega
  have hab2 : (a : Int) < b := by omega
  have HSP := Lib.hid (cov_two L a m b hma hmb (by omega) hb2)
  have HFAR := Lib.hid (cov_far L (a : Int) (1025 + m3) (by omega) (by omega))
  have HMI := Lib.hid (cov_minus L a b (by omega) hb2)
  have hdiv : ¬ ((b : Int) - a + 1 = 0) := by omega
  have hm0 : (0 : Int) ≤ m3 := by omega
  clear hm hmod
  have d0 := BX2.out.c0
  have d1 := BX2.out.c1
  simp only at d0 d1
  go_wp2_with fail
  generalize hWY : wa.alloc _ = WY
  have hby : Below wa.heap.size wa WY := by rw [← hWY]; exact (Below.refl _ _).alloc (Nat.le_refl _) _
  have hzy : wa.heap.size < WY.heap.size := by rw [← hWY]; simp
  have S_1 := Lib.hid (show SL WY (· < WY.heap.size) [((a : Int), (b : Int))] (some ⟨wa.heap.size, 0, none⟩) 1 from by
    have hx : BoxS WY wa.heap.size ((a : Int), (b : Int)) := by rw [← hWY]; exact heap_alloc_new wa _
    refine ⟨Nat.le_refl _, by unfold maxLen; simp, (fun e => by cases e), fun _ => ⟨wa.heap.size, 0, rfl, hzy, fun i p hi => ?_⟩⟩
    match i, hi with
    | 0, hi => simp at hi; subst hi; exact ⟨hx.c0, hx.c1⟩)
  have S_L2 := Lib.hid (S_L.out.up hby)
  clear S_L
  have S_L := S_L2
  clear S_L2
  have WB := Lib.hid (WA.out.trans (hby.mono WA.out.size))
  clear hWY hby WA BX2 d0 d1
  have CC := (show Calls Try.prog 20 #[.slice (some ⟨wa.heap.size, 0, none⟩) 1 1, .slice A_L L.length c_L] WY _ from minus_all [((a : Int), (b : Int))] L (some ⟨wa.heap.size, 0, none⟩) A_L 1 c_L WY (by simp) hL S_1.out S_L.out)
  refine CC.mono ?_
  clear CC
  rintro e wb ⟨A_r, c_r, rfl, _, hb⟩
  have S_L2 := Lib.hid (S_L.out.up hb)
  clear S_L
  have S_L := S_L2
  clear S_L2
  have WC := Lib.hid (WB.out.trans (hb.mono WB.out.size))
  clear hb WB S_1
  have C1 := Lib.hid (covers_all L A_L c_L (a : Int) (m : Int) wb hL S_L.out)
  have C2 := Lib.hid (fun w' (h : Below wb.heap.size wb w') => covers_all L A_L c_L (m : Int) (b : Int) w' hL (S_L.out.up h))
  have C3 := Lib.hid (fun w' (h : Below wb.heap.size wb w') => covers_all L A_L c_L (a : Int) (1025 + m3) w' hL (S_L.out.up h))
  have hz : wb.heap.size = wb.heap.size := rfl
  obtain ⟨N, hN⟩ : ∃ N, N = (rn 0 (zw (fun x y => x && !y) [((a : Int), (b : Int))] L)).length := ⟨_, rfl⟩
  obtain ⟨v, hv⟩ : ∃ v, v = cov L ((a : Int), (b : Int)) := ⟨_, rfl⟩
  obtain ⟨v1, hv1⟩ : ∃ v, v = cov L ((a : Int), (m : Int)) := ⟨_, rfl⟩
  obtain ⟨v2, hv2⟩ : ∃ v, v = cov L ((m : Int), (b : Int)) := ⟨_, rfl⟩
  have e3 := HFAR.out
  have e4 := HMI.out
  have e5 := HSP.out
  rw [← hN, ← hv] at e4
  rw [← hv, ← hv1, ← hv2] at e5
  rw [← hv1] at C1
  have C2' := Lib.hid (fun w' h => show Calls _ _ _ w' (fun e w'' => e = .returned (.bool v2) ∧ Below w'.heap.size w' w'') by rw [hv2]; exact C2.out w' h)
  have C3' := Lib.hid (fun w' h => show Calls _ _ _ w' (fun e w'' => e = .returned (.bool false) ∧ Below w'.heap.size w' w'') by rw [← e3]; exact C3.out w' h)
  rw [← hN, ← hv]
  have hN0 : (N == 0) = v := by rw [← e4]; cases N <;> simp
  have hzN : 0 ≤ N := Nat.zero_le _
  clear hN hv hv1 hv2 C2 C3 e3 e4 hz HFAR HMI HSP
  have E5 := Lib.hid e5
  clear e5
  cases v1 <;> cases v2 <;> cases v
  all_goals (try (exact absurd E5.out (by decide)))
  case true.true.true =>
    obtain rfl : N = 0 := by simpa using hN0
    clear hN0 hzN
    go_wp2_with fail
    refine C1.out.mono ?_
    rintro e wc ⟨rfl, hb⟩
    have WD := Lib.hid (WC.out.trans (hb.mono WC.out.size))
    have HB1 := Lib.hid hb
    clear hb C1
    go_wp2_with fail
    refine (C2'.out wc HB1.out).mono ?_
    rintro e wd ⟨rfl, hb⟩
    have WE := Lib.hid (WD.out.trans (hb.mono WD.out.size))
    have HB2 := Lib.hid (HB1.out.trans (hb.mono HB1.out.size))
    clear hb C2'
    go_wp2_with fail
    refine (C3'.out wd HB2.out).mono ?_
    rintro e we ⟨rfl, hb⟩
    have WF := Lib.hid (WE.out.trans (hb.mono WE.out.size))
    clear hb C3'
    go_wp2_with fail
    go_ret
    exact ⟨rfl, WF.out⟩
  case true.false.false =>
    have hN1 : ¬ N = 0 := by simpa using hN0
    have hN2 : ((N : Int) == 0) = false := by simpa using hN1
    have hN3 : ((N : Int) == (0 : Nat)) = false := by simpa using hN1
    have hN4 : decide (N = 0) = false := by simpa using hN1
    have hN5 : decide ((N : Int) = 0) = false := by simpa using hN1
    clear hzN
    go_wp2_with fail
    refine C1.out.mono ?_
    rintro e wc ⟨rfl, hb⟩
    have WD := Lib.hid (WC.out.trans (hb.mono WC.out.size))
    have HB1 := Lib.hid hb
    clear hb C1
    go_wp2_with fail
    refine (C2'.out wc HB1.out).mono ?_
    rintro e wd ⟨rfl, hb⟩
    have WE := Lib.hid (WD.out.trans (hb.mono WD.out.size))
    have HB2 := Lib.hid (HB1.out.trans (hb.mono HB1.out.size))
    clear hb C2'
    go_wp2_with fail
    refine (C3'.out wd HB2.out).mono ?_
    rintro e we ⟨rfl, hb⟩
    have WF := Lib.hid (WE.out.trans (hb.mono WE.out.size))
    clear hb C3'
    go_wp2_with fail
    go_ret
    exact ⟨rfl, WF.out⟩
  all_goals
    have hN1 : ¬ N = 0 := by simpa using hN0
    have hN2 : ((N : Int) == 0) = false := by simpa using hN1
    have hN3 : ((N : Int) == (0 : Nat)) = false := by simpa using hN1
    have hN4 : decide (N = 0) = false := by simpa using hN1
    have hN5 : decide ((N : Int) = 0) = false := by simpa using hN1
    clear hzN
    go_wp2_with fail
    refine C1.out.mono ?_
    rintro e wc ⟨rfl, hb⟩
    have WD := Lib.hid (WC.out.trans (hb.mono WC.out.size))
    have HB1 := Lib.hid hb
    clear hb C1
    go_wp2_with fail
    refine (C3'.out wc HB1.out).mono ?_
    rintro e we ⟨rfl, hb⟩
    have WF := Lib.hid (WD.out.trans (hb.mono WD.out.size))
    clear hb C3'
    go_wp2_with fail
    go_ret
    exact ⟨rfl, WF.out⟩

set_option maxRecDepth 100000 in
theorem covers3_lifted (os : Os) (started : os.Started) (H : Type) (enc : TypeId × Value → H) :
    ReturnsInHanded {} Try.checked os 8 .any (Rows.spansCoversSpec.pre6 enc Try.prog Try.f8 Rows.spansCoversRow.domain false) (Rows.spansCoversSpec.post enc Try.prog Try.f8 false true false false) := by
  refine returnsInHanded_of_change (C := Try.checked) prog_own started (by kernel_rfl) Try.func8
    (ChangeSpec.witness6 (enc := enc) (C := Try.checked) false ⟨#[], #[.slice none 0 0, .int .u16 0, .int .u16 0, .int .u16 0], []⟩ 8 (by kernel_rfl) (by kernel_rfl) (by kernel_rfl) (by kernel_rfl)) ?_
  intro W base args ds gs before hval0 hW _ _
  have hval : ∀ (j : Nat) t v, Try.f8.params[j]? = some t → args[j]? = some v → Value.okWide Try.prog W .any base t v := hval0
  have hW' : DataW.Whole enc Try.prog Try.f8.params.toList Rows.spansCoversSpec.vars false W args.toList ds gs before := hW
  obtain ⟨p, q, hA0, _, _, _, _⟩ := hW
  have hA : DataW.TrodAll enc Try.prog W 0 (fun _ => true) true Try.f8.params.toList args.toList ds p := hA0
  rw [Try.params8] at hA hval
  obtain ⟨v0, v1, v2, v3, e0, e1, e2, e3, p0, p1, p2, p3, rfl, rfl, rfl, h0, h1, h2, h3⟩ := trodAll_four hA
  obtain ⟨x0, A0, c0, rfl, hx0⟩ := arg_spans (hval 0 22 v0 rfl rfl) h0
  obtain ⟨b1, rfl, rfl, rfl, wb1⟩ := open_int Try.underlying37 (hval 1 37 v1 rfl rfl) h1
  obtain ⟨m1, hm1, rfl⟩ : ∃ m : Nat, m < 65536 ∧ b1 = (m : Int) := by
    simp [Lit.wf, IntKind.min, IntKind.max, IntKind.signed, IntKind.bits] at wb1
    exact ⟨b1.toNat, by omega, by omega⟩
  obtain ⟨b2, rfl, rfl, rfl, wb2⟩ := open_int Try.underlying37 (hval 2 37 v2 rfl rfl) h2
  obtain ⟨m2, hm2, rfl⟩ : ∃ m : Nat, m < 65536 ∧ b2 = (m : Int) := by
    simp [Lit.wf, IntKind.min, IntKind.max, IntKind.signed, IntKind.bits] at wb2
    exact ⟨b2.toNat, by omega, by omega⟩
  obtain ⟨b3, rfl, rfl, rfl, wb3⟩ := open_int Try.underlying37 (hval 3 37 v3 rfl rfl) h3
  obtain ⟨m3, hm3, rfl⟩ : ∃ m : Nat, m < 65536 ∧ b3 = (m : Int) := by
    simp [Lit.wf, IntKind.min, IntKind.max, IntKind.signed, IntKind.bits] at wb3
    exact ⟨b3.toNat, by omega, by omega⟩
  refine (covers3_all x0 m1 m2 m3 A0 c0 W hm1 hm2 hm3 hx0).mono fun e W' ⟨he, hb⟩ => ?_
  subst he
  exact ⟨_, rfl, law_post rfl (fun ds hd => by
    match ds, hd with
    | [_, _, _, _], _ => rfl) (by kernel_rfl) (by
    rw [Try.params8]
    intro t ht
    simp only [List.mem_cons, List.not_mem_nil, or_false, or_self] at ht
    rcases ht with rfl | rfl
    · exact p_spans
    · exact p_u16) rfl hW' hb⟩

theorem covers3_holds : Rows.SpansCoversSaid :=
  OpenClaim.holds_of_wide 8 Try.f8 rfl rfl rfl rfl rfl rfl rfl ⟨rfl, rfl, rfl, rfl, rfl⟩ rfl rfl rfl rfl rfl (by kernel_rfl) Try.func8 (by kernel_rfl)
    (of_decide_eq_true (by kernel_rfl)) (by unfold Func.isWrapper; first | (rw [if_pos (by decide +kernel)]; kernel_rfl) | (rw [if_neg (by decide +kernel)]; exact ⟨rfl, rfl⟩))
    (fun os started H enc _ => covers3_lifted os started H enc)
end Go.Proofs.Ytofjbplojhlnoaa
