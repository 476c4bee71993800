/- Proved: for every two slices of spans that can be read as data and every int, in whatever memory and on every schedule, SpansDays returns true and its arguments read afterwards as before; there is no further condition. -/
import Derived.Test.YtofjbplojhlnoaaSP
namespace Go.Proofs.Ytofjbplojhlnoaa
open Go.ChangeShapes Go.WideShapes Go.ChangeAt Go.RowKit


/-- a normal list -/
def NF (X : List Sp) : Prop := X.length ≤ 1024 ∧ (∀ (i : Nat) (p : Sp), X[i]? = some p → 0 ≤ p.1 ∧ p.1 < p.2 ∧ p.2 ≤ 1024) ∧ ∀ (i : Nat) (p q : Sp), X[i]? = some p → X[i + 1]? = some q → p.2 < q.1
theorem nf_rn (l : List Bool) (hl : l.length = 1024) : NF (rn 0 l) := by
  refine ⟨by have := rn_len l 0; omega, fun i p hp => ?_, fun i p q hp hq => ?_⟩
  · have := rn_lo l 0 p (List.mem_of_getElem? hp)
    rw [hl] at this
    omega
  · have := rn_apart l 0
    rw [List.pairwise_iff_getElem] at this
    obtain ⟨h1, rfl⟩ := List.getElem?_eq_some_iff.1 hp
    obtain ⟨h2, rfl⟩ := List.getElem?_eq_some_iff.1 hq
    exact this i (i + 1) h1 h2 (by omega)
theorem nf_chk (X : List Sp) (h : NF X) : chk X = 0 := by
  unfold chk
  rw [if_pos]
  refine List.all_eq_true.2 fun p hp => ?_
  obtain ⟨i, hi, rfl⟩ := List.getElem_of_mem hp
  have := h.2.1 i _ (List.getElem?_eq_getElem hi)
  simp [good]
  omega
theorem has_in (X : List Sp) (k : Int) (h : 0 ≤ k ∧ k < 1024) : has X k = hit X k := by simp [has, h]
theorem has_out (X : List Sp) (k : Int) (h : ¬ (0 ≤ k ∧ k < 1024)) : has X k = false := by
  simp [has]
  intro h1 h2
  exact absurd ⟨h1, h2⟩ h
theorem has_zw (f : Bool → Bool → Bool) (h0 : f false false = false) (a b : List Sp) (k : Int) : has (rn 0 (zw f a b)) k = f (has a k) (has b k) := by
  by_cases h : 0 ≤ k ∧ k < 1024
  · rw [has_in _ _ h, has_in _ _ h, has_in _ _ h]
    obtain ⟨m, rfl⟩ : ∃ m : Nat, k = m := ⟨k.toNat, by omega⟩
    exact hit_zw f a b m (by omega)
  · rw [has_out _ _ h, has_out _ _ h, has_out _ _ h, h0]
theorem has_nm (a : List Sp) (k : Int) : has (nm a) k = has a k := by
  by_cases h : 0 ≤ k ∧ k < 1024
  · rw [has_in _ _ h, has_in _ _ h]
    obtain ⟨m, rfl⟩ : ∃ m : Nat, k = m := ⟨k.toNat, by omega⟩
    have := rn_hit (dy a) 0 m
    rw [show nm a = rn 0 (dy a) from rfl, this]
    simp [List.getD_eq_getElem?_getD, dy, show m < 1024 by omega]
  · rw [has_out _ _ h, has_out _ _ h]

set_option maxRecDepth 100000 in
set_option maxHeartbeats 8000000 in
theorem days_all (a b : List Sp) (day : Int) (A_a : Option Addr) (c_a : Nat) (A_b : Option Addr) (c_b : Nat) (w : World) (sa : SL w (· < w.heap.size) a A_a c_a) (sb : SL w (· < w.heap.size) b A_b c_b) :
    Calls Try.prog 5 #[.slice A_a a.length c_a, .slice A_b b.length c_b, .int .i64 day] w fun e w' => e = .returned (.bool true) ∧ Below w.heap.size w w' := by
  have S_a := Lib.hid sa
  have S_b := Lib.hid sb
  clear sa sb
  have W0 := Lib.hid (Below.refl w.heap.size w)
  go_enter Try.func5, Try.ntmps5
  go_wp2_with fail
  have CC := sane_all w
  refine CC.mono ?_
  clear CC
  rintro e w1 ⟨rfl, hb⟩
  have W1 := Lib.hid (W0.out.trans (hb.mono W0.out.size))
  have T_a := Lib.hid (S_a.out.up hb)
  clear S_a
  have S_a := T_a
  clear T_a
  have T_b := Lib.hid (S_b.out.up hb)
  clear S_b
  have S_b := T_b
  clear T_b
  clear hb W0
  by_cases ha' : a.length ≤ 40
  case neg =>
    go_wp2_with fail
    refine (few_no a A_a c_a ha' _).mono ?_
    rintro e w' ⟨rfl, hw'⟩
    rw [hw']
    clear hw' w'
    go_wp2_with fail
    go_ret
    exact ⟨rfl, W1.out⟩
  by_cases hb' : b.length ≤ 40
  case neg =>
    go_wp2_with fail
    refine (few_yes a A_a c_a ha' _).mono ?_
    rintro e w' ⟨rfl, hw'⟩
    rw [hw']
    clear hw' w'
    go_wp2_with fail
    refine (few_no b A_b c_b hb' _).mono ?_
    rintro e w' ⟨rfl, hw'⟩
    rw [hw']
    clear hw' w'
    go_wp2_with fail
    go_ret
    exact ⟨rfl, W1.out⟩
  go_wp2_with fail
  refine (few_yes a A_a c_a ha' _).mono ?_
  rintro e w' ⟨rfl, hw'⟩
  rw [hw']
  clear hw' w'
  go_wp2_with fail
  refine (few_yes b A_b c_b hb' _).mono ?_
  rintro e w' ⟨rfl, hw'⟩
  rw [hw']
  clear hw' w'
  have ha : a.length ≤ 1000000 := by omega
  have hb : b.length ≤ 1000000 := by omega
  go_wp2_with fail
  have CC := (show Calls Try.prog 16 #[.slice A_a a.length c_a, .slice A_b b.length c_b] w1 fun e w' => ∃ A c, e = .returned (.slice A (rn 0 (zw (fun x y => x || y) a b)).length c) ∧ SL w' (· < w'.heap.size) (rn 0 (zw (fun x y => x || y) a b)) A c ∧ Below w1.heap.size w1 w' from by have C := union_all a b A_a A_b c_a c_b w1 ha hb S_a.out S_b.out; exact C.mono fun e w' ⟨A, c, he, hs, hb⟩ => ⟨A, c, he, hs.top, hb⟩)
  refine CC.mono ?_
  clear CC
  rintro e w2 ⟨A_v1, c_v1, rfl, hs, hb⟩
  have W2 := Lib.hid (W1.out.trans (hb.mono W1.out.size))
  have T_a := Lib.hid (S_a.out.up hb)
  clear S_a
  have S_a := T_a
  clear T_a
  have T_b := Lib.hid (S_b.out.up hb)
  clear S_b
  have S_b := T_b
  clear T_b
  have S_v1 := Lib.hid hs
  clear hs
  clear hb W1
  go_wp2_with fail
  have CC := (show Calls Try.prog 18 #[.slice A_a a.length c_a, .slice A_b b.length c_b] w2 fun e w' => ∃ A c, e = .returned (.slice A (rn 0 (zw (fun x y => x && y) a b)).length c) ∧ SL w' (· < w'.heap.size) (rn 0 (zw (fun x y => x && y) a b)) A c ∧ Below w2.heap.size w2 w' from by have C := meet_all a b A_a A_b c_a c_b w2 ha hb S_a.out S_b.out; exact C.mono fun e w' ⟨A, c, he, hs, hb⟩ => ⟨A, c, he, hs.top, hb⟩)
  refine CC.mono ?_
  clear CC
  rintro e w3 ⟨A_v2, c_v2, rfl, hs, hb⟩
  have W3 := Lib.hid (W2.out.trans (hb.mono W2.out.size))
  have T_a := Lib.hid (S_a.out.up hb)
  clear S_a
  have S_a := T_a
  clear T_a
  have T_b := Lib.hid (S_b.out.up hb)
  clear S_b
  have S_b := T_b
  clear T_b
  have T_v1 := Lib.hid (S_v1.out.up hb)
  clear S_v1
  have S_v1 := T_v1
  clear T_v1
  have S_v2 := Lib.hid hs
  clear hs
  clear hb W2
  go_wp2_with fail
  have CC := (show Calls Try.prog 20 #[.slice A_a a.length c_a, .slice A_b b.length c_b] w3 fun e w' => ∃ A c, e = .returned (.slice A (rn 0 (zw (fun x y => x && !y) a b)).length c) ∧ SL w' (· < w'.heap.size) (rn 0 (zw (fun x y => x && !y) a b)) A c ∧ Below w3.heap.size w3 w' from by have C := minus_all a b A_a A_b c_a c_b w3 ha hb S_a.out S_b.out; exact C.mono fun e w' ⟨A, c, he, hs, hb⟩ => ⟨A, c, he, hs.top, hb⟩)
  refine CC.mono ?_
  clear CC
  rintro e w4 ⟨A_v3, c_v3, rfl, hs, hb⟩
  have W4 := Lib.hid (W3.out.trans (hb.mono W3.out.size))
  have T_a := Lib.hid (S_a.out.up hb)
  clear S_a
  have S_a := T_a
  clear T_a
  have T_b := Lib.hid (S_b.out.up hb)
  clear S_b
  have S_b := T_b
  clear T_b
  have T_v1 := Lib.hid (S_v1.out.up hb)
  clear S_v1
  have S_v1 := T_v1
  clear T_v1
  have T_v2 := Lib.hid (S_v2.out.up hb)
  clear S_v2
  have S_v2 := T_v2
  clear T_v2
  have S_v3 := Lib.hid hs
  clear hs
  clear hb W3
  go_wp2_with fail
  have CC := (show Calls Try.prog 14 #[.slice A_a a.length c_a] w4 fun e w' => ∃ A c, e = .returned (.slice A (nm a).length c) ∧ SL w' (· < w'.heap.size) (nm a) A c ∧ Below w4.heap.size w4 w' from by have C := normal_all a A_a c_a w4 ha S_a.out; exact C.mono fun e w' ⟨A, c, he, hs, hb⟩ => ⟨A, c, he, hs.top, hb⟩)
  refine CC.mono ?_
  clear CC
  rintro e w5 ⟨A_v4, c_v4, rfl, hs, hb⟩
  have W5 := Lib.hid (W4.out.trans (hb.mono W4.out.size))
  have T_a := Lib.hid (S_a.out.up hb)
  clear S_a
  have S_a := T_a
  clear T_a
  have T_b := Lib.hid (S_b.out.up hb)
  clear S_b
  have S_b := T_b
  clear T_b
  have T_v1 := Lib.hid (S_v1.out.up hb)
  clear S_v1
  have S_v1 := T_v1
  clear T_v1
  have T_v2 := Lib.hid (S_v2.out.up hb)
  clear S_v2
  have S_v2 := T_v2
  clear T_v2
  have T_v3 := Lib.hid (S_v3.out.up hb)
  clear S_v3
  have S_v3 := T_v3
  clear T_v3
  have S_v4 := Lib.hid hs
  clear hs
  clear hb W4
  obtain ⟨U, hU⟩ : ∃ U, U = (rn 0 (zw (fun x y => x || y) a b)) := ⟨_, rfl⟩
  obtain ⟨M, hM⟩ : ∃ U, U = (rn 0 (zw (fun x y => x && y) a b)) := ⟨_, rfl⟩
  obtain ⟨D, hD⟩ : ∃ U, U = (rn 0 (zw (fun x y => x && !y) a b)) := ⟨_, rfl⟩
  obtain ⟨N, hN⟩ : ∃ U, U = (nm a) := ⟨_, rfl⟩
  have NU : Hid (NF U) := Lib.hid (by rw [hU]; exact nf_rn _ (zw_len _ _ _))
  have NM : Hid (NF M) := Lib.hid (by rw [hM]; exact nf_rn _ (zw_len _ _ _))
  have ND : Hid (NF D) := Lib.hid (by rw [hD]; exact nf_rn _ (zw_len _ _ _))
  have NN : Hid (NF N) := Lib.hid (by rw [hN]; exact nf_rn _ (dy_len _))
  have QU : Hid (∀ k : Int, has U k = (has a k || has b k)) := Lib.hid (by rw [hU]; exact has_zw _ rfl a b)
  have QM : Hid (∀ k : Int, has M k = (has a k && has b k)) := Lib.hid (by rw [hM]; exact has_zw _ rfl a b)
  have QD : Hid (∀ k : Int, has D k = (has a k && !has b k)) := Lib.hid (by rw [hD]; exact has_zw _ rfl a b)
  have QN : Hid (∀ k : Int, has N k = has a k) := Lib.hid (by rw [hN]; exact has_nm a)
  rw [← hU] at S_v1 ⊢
  rw [← hM] at S_v2 ⊢
  rw [← hD] at S_v3 ⊢
  rw [← hN] at S_v4 ⊢
  clear hU hM hD hN
  go_wp2_with fail
  generalize hWX : w5.alloc _ = WX
  have hbx : Below w5.heap.size w5 WX := by rw [← hWX]; exact (Below.refl _ _).alloc (Nat.le_refl _) _
  have hcx : Rw WX w5.heap.size 22 [.slice A_v1 U.length c_v1, .slice A_v2 M.length c_v2, .slice A_v3 D.length c_v3, .slice A_v4 N.length c_v4] := by rw [← hWX]; exact heap_alloc_new w5 _
  have HCX := Lib.hid hcx
  have hlx := hcx.lt
  have WX0 := Lib.hid (W5.out.trans (hbx.mono W5.out.size))
  have T_a := Lib.hid (S_a.out.up hbx)
  clear S_a
  have S_a := T_a
  clear T_a
  have T_b := Lib.hid (S_b.out.up hbx)
  clear S_b
  have S_b := T_b
  clear T_b
  have T_v1 := Lib.hid (S_v1.out.up hbx)
  clear S_v1
  have S_v1 := T_v1
  clear T_v1
  have T_v2 := Lib.hid (S_v2.out.up hbx)
  clear S_v2
  have S_v2 := T_v2
  clear T_v2
  have T_v3 := Lib.hid (S_v3.out.up hbx)
  clear S_v3
  have S_v3 := T_v3
  clear T_v3
  have T_v4 := Lib.hid (S_v4.out.up hbx)
  clear S_v4
  have S_v4 := T_v4
  clear T_v4
  clear hbx hcx hWX W5
  go_loopw [44] (fun x wr => ∃ j : Nat, j ≤ 4 ∧ x = .int .i64 j ∧ Below WX.heap.size WX wr) (fun x _ => 4 - (intOf x).toNat)
  case atStart => exact ⟨0, by omega, rfl, Below.refl _ _⟩
  case round =>
    obtain ⟨j, hj, rfl, hb⟩ := hrel
    have HB := Lib.hid hb
    have hz := hb.size
    clear hb
    by_cases hj4 : j < 4
    · obtain ⟨X, A, c, hc, HX, hs⟩ : ∃ (X : List Sp) (A : Option Addr) (c : Nat), wr.cell? ⟨w5.heap.size, j, none⟩ = some (.slice A X.length c) ∧ Hid (NF X) ∧ SL WX (· < WX.heap.size) X A c := by
        have hc := HCX.out.keep (HB.out.block _ hlx)
        match j, hj4 with
        | 0, _ => exact ⟨U, A_v1, c_v1, hc.cell rfl, NU, S_v1.out⟩
        | 1, _ => exact ⟨M, A_v2, c_v2, hc.cell rfl, NM, S_v2.out⟩
        | 2, _ => exact ⟨D, A_v3, c_v3, hc.cell rfl, ND, S_v3.out⟩
        | 3, _ => exact ⟨N, A_v4, c_v4, hc.cell rfl, NN, S_v4.out⟩
      have HS := Lib.hid hs
      have hcap := hs.1
      have hcm : c ≤ 9223372036854775807 := hs.2.1
      have hxl := HX.out.1
      clear hs
      go_wp2_with fail
      obtain ⟨wo, rfl⟩ : ∃ wo : World, wo = wr := ⟨_, rfl⟩
      go_loopw [50] (fun x wr => ∃ i : Nat, i ≤ X.length ∧ x = .int .i64 i ∧ Below WX.heap.size WX wr) (fun x _ => X.length - (intOf x).toNat)
      case atStart => exact ⟨0, Nat.zero_le _, rfl, HB.out⟩
      case round =>
        obtain ⟨i, hi, rfl, hb⟩ := hrel
        have HBB := Lib.hid hb
        have hz2 := hb.size
        by_cases hlt : i < X.length
        · obtain ⟨p, hp⟩ : ∃ p, X[i]? = some p := ⟨_, List.getElem?_eq_getElem hlt⟩
          obtain ⟨g, o, rfl, hS, hat⟩ := HS.out.2.2.2 (by omega)
          obtain ⟨hc1, hc2⟩ := hat i p hp
          have q1 := (World.cell?_of_block (hb.block g hS)).trans hc1
          have q2 := (World.cell?_of_block (hb.block g hS)).trans hc2
          obtain ⟨g1, g2, g3⟩ := HX.out.2.1 i p hp
          have HPREV := Lib.hid (show ∀ i' : Nat, i = i' + 1 → ∃ q1 q2 : Int, wr.cell? ⟨g, o + i' * 2, none⟩ = some (.int .i64 q1) ∧ wr.cell? ⟨g, o + i' * 2 + 1, none⟩ = some (.int .i64 q2) ∧ q2 < p.1 from fun i' e => by
            obtain ⟨q, hq⟩ : ∃ q, X[i']? = some q := ⟨_, List.getElem?_eq_getElem (by omega)⟩
            obtain ⟨d1, d2⟩ := hat i' q hq
            refine ⟨q.1, q.2, (World.cell?_of_block (hb.block g hS)).trans d1, (World.cell?_of_block (hb.block g hS)).trans d2, ?_⟩
            subst e
            exact HX.out.2.2 i' q p hq hp)
          obtain ⟨p1, p2⟩ := p
          simp only at q1 q2 g1 g2 g3 HPREV
          have HBA := Lib.hid (HBB.out.alloc hz2 (.cells #[.int .i64 p1, .int .i64 p2] 32))
          have e1 : decide (p1 < 0) = false := by simpa using g1
          have e2 : decide (p2 ≤ p1) = false := by simpa using g2
          have e3 : decide (1024 < p2) = false := by simpa using g3
          clear hb hp hat hc1 hc2
          by_cases hi0 : i = 0
          · subst hi0
            clear HPREV
            rw [show o + 0 * 2 = o by omega] at q1 q2
            go_wp2_with fail
            go_quiet (fail)
            go_wp2_with fail
            go_roundw
            case rel => exact ⟨1, by omega, by go_num, below_drewN HBA.out _⟩
            case measure => simp [intOf]; omega
          · obtain ⟨i', hi'⟩ : ∃ i', i = i' + 1 := ⟨i - 1, by omega⟩
            obtain ⟨r1, r2, q3, q4, q5⟩ := HPREV.out i' hi'
            have hgl : g < wr.heap.size := Nat.lt_of_lt_of_le hS hz2
            have q3' := (World.cell?_of_block (a := ⟨g, o + i' * 2, none⟩) (Below.heap_alloc wr (.cells #[.int .i64 p1, .int .i64 p2] 32) g hgl)).trans q3
            have q4' := (World.cell?_of_block (a := ⟨g, o + i' * 2 + 1, none⟩) (Below.heap_alloc wr (.cells #[.int .i64 p1, .int .i64 p2] 32) g hgl)).trans q4
            have hgn : ¬ g = wr.heap.size := Nat.ne_of_lt hgl
            have hgn' : ¬ wr.heap.size = g := fun h => hgn h.symm
            have e4 : decide (p1 ≤ r2) = false := by simpa using q5
            have i1 : (0 : Int) ≤ (i' : Int) := by omega
            have i2 : (i' : Int) < X.length := by omega
            have i3 : IntKind.i64.wrap ((i : Int) - 1) = i' := by rw [show (i : Int) - 1 = i' by omega]; exact IntWalk.i64_in _ (by omega)
            have i4 : decide ((0 : Int) < (i : Int)) = true := by simp; omega
            have i5 : (0 : Int) < (i : Int) := by omega
            have i6 : i' < X.length := by omega
            have i7 : 0 < i := by omega
            clear hi'
            clear HPREV
            go_wp2_with fail
            go_quiet (fail)
            go_wp2_with fail
            go_roundw
            case rel => exact ⟨i + 1, by omega, by go_num, below_drewN HBA.out _⟩
            case measure => simp [intOf]; omega
        · have C := Lib.hid (check_all X A c wr (HS.out.up HBB.out))
          have hk : chk X = 0 := nf_chk X HX.out
          rw [hk] at C
          clear hb hk
          go_wp2_with fail
          refine C.out.mono ?_
          rintro e wk ⟨rfl, hb⟩
          have HBK := Lib.hid (HBB.out.trans (hb.mono hz2))
          clear hb C
          go_wp2_with fail
          go_roundw
          case rel => exact ⟨j + 1, by omega, by go_num, HBK.out⟩
          case measure => simp [intOf]; omega
    · obtain rfl : j = 4 := by omega
      go_wp2_with fail
      obtain ⟨wq, rfl⟩ : ∃ wq : World, wq = wr := ⟨_, rfl⟩
      obtain ⟨m, hm⟩ : ∃ m : Int, m = bits BinOp.and .i64 day 511 := ⟨_, rfl⟩
      rw [← hm]
      clear hm
      rw [show ((4 : Nat) : Int) = 4 from rfl]
      have hz3 := HB.out.size
      generalize hWY : World.alloc _ (Obj.cells #[.int .i64 day, .int .i64 m, .int .i64 0, .int .i64 1023] _) = WY
      have hby : Below WX.heap.size WX WY := by rw [← hWY]; exact HB.out.alloc hz3 _
      have hcy : Rw WY wq.heap.size 3 [.int .i64 day, .int .i64 m, .int .i64 0, .int .i64 1023] := by rw [← hWY]; exact heap_alloc_new wq _
      have HCY := Lib.hid hcy
      have hly := hcy.lt
      have WY0 := Lib.hid (WX0.out.trans (hby.mono WX0.out.size))
      have T_a := Lib.hid (fun ww (h : Below WY.heap.size WY ww) => (S_a.out.up hby).up h)
      have T_b := Lib.hid (fun ww (h : Below WY.heap.size WY ww) => (S_b.out.up hby).up h)
      have T_v1 := Lib.hid (fun ww (h : Below WY.heap.size WY ww) => (S_v1.out.up hby).up h)
      have T_v2 := Lib.hid (fun ww (h : Below WY.heap.size WY ww) => (S_v2.out.up hby).up h)
      have T_v3 := Lib.hid (fun ww (h : Below WY.heap.size WY ww) => (S_v3.out.up hby).up h)
      clear hby hcy hWY
      go_loopw [95] (fun x wr => ∃ j : Nat, j ≤ 4 ∧ x = .int .i64 j ∧ Below WY.heap.size WY wr) (fun x _ => 4 - (intOf x).toNat)
      case atStart => exact ⟨0, by omega, rfl, Below.refl _ _⟩
      case round =>
        obtain ⟨j, hj, rfl, hb⟩ := hrel
        have HB0 := Lib.hid hb
        have hz := hb.size
        clear hb
        by_cases hj4 : j < 4
        · obtain ⟨k, hc⟩ : ∃ k : Int, wr.cell? ⟨wq.heap.size, j, none⟩ = some (.int .i64 k) := by
            have hc := HCY.out.keep (HB0.out.block _ hly)
            match j, hj4 with
            | 0, _ => exact ⟨_, hc.cell rfl⟩
            | 1, _ => exact ⟨_, hc.cell rfl⟩
            | 2, _ => exact ⟨_, hc.cell rfl⟩
            | 3, _ => exact ⟨_, hc.cell rfl⟩
          obtain ⟨x, hx⟩ : ∃ x, has a k = x := ⟨_, rfl⟩
          obtain ⟨y, hy⟩ : ∃ y, has b k = y := ⟨_, rfl⟩
          rcases x <;> rcases y
          · obtain ⟨w0, rfl⟩ : ∃ w0 : World, w0 = wr := ⟨_, rfl⟩
            have CC := (show Calls Try.prog 22 #[.slice A_a a.length c_a, .int .i64 k] w0 fun e w' => e = .returned (.bool false) ∧ Below w0.heap.size w0 w' from by have C := has_all a A_a c_a k w0 (T_a.out _ HB0.out); rw [show has a k = false by exact hx] at C; exact C)
            go_wp2_with fail
            refine CC.mono ?_
            clear CC
            rintro e w1 ⟨rfl, hb⟩
            have HB1 := Lib.hid (HB0.out.trans (hb.mono HB0.out.size))
            clear hb
            have CC := (show Calls Try.prog 22 #[.slice A_b b.length c_b, .int .i64 k] w1 fun e w' => e = .returned (.bool false) ∧ Below w1.heap.size w1 w' from by have C := has_all b A_b c_b k w1 (T_b.out _ HB1.out); rw [show has b k = false by exact hy] at C; exact C)
            go_wp2_with fail
            refine CC.mono ?_
            clear CC
            rintro e w2 ⟨rfl, hb⟩
            have HB2 := Lib.hid (HB1.out.trans (hb.mono HB1.out.size))
            clear hb
            have CC := (show Calls Try.prog 22 #[.slice A_v1 U.length c_v1, .int .i64 k] w2 fun e w' => e = .returned (.bool false) ∧ Below w2.heap.size w2 w' from by have C := has_all U A_v1 c_v1 k w2 (T_v1.out _ HB2.out); rw [show has U k = false by rw [QU.out, hx, hy]; rfl] at C; exact C)
            go_wp2_with fail
            refine CC.mono ?_
            clear CC
            rintro e w3 ⟨rfl, hb⟩
            have HB3 := Lib.hid (HB2.out.trans (hb.mono HB2.out.size))
            clear hb
            have CC := (show Calls Try.prog 22 #[.slice A_v2 M.length c_v2, .int .i64 k] w3 fun e w' => e = .returned (.bool false) ∧ Below w3.heap.size w3 w' from by have C := has_all M A_v2 c_v2 k w3 (T_v2.out _ HB3.out); rw [show has M k = false by rw [QM.out, hx, hy]; rfl] at C; exact C)
            go_wp2_with fail
            refine CC.mono ?_
            clear CC
            rintro e w4 ⟨rfl, hb⟩
            have HB4 := Lib.hid (HB3.out.trans (hb.mono HB3.out.size))
            clear hb
            have CC := (show Calls Try.prog 22 #[.slice A_v3 D.length c_v3, .int .i64 k] w4 fun e w' => e = .returned (.bool false) ∧ Below w4.heap.size w4 w' from by have C := has_all D A_v3 c_v3 k w4 (T_v3.out _ HB4.out); rw [show has D k = false by rw [QD.out, hx, hy]; rfl] at C; exact C)
            go_wp2_with fail
            refine CC.mono ?_
            clear CC
            rintro e w5 ⟨rfl, hb⟩
            have HB5 := Lib.hid (HB4.out.trans (hb.mono HB4.out.size))
            clear hb
            have CC := Lib.hid (normal_all a A_a c_a w5 (by omega) (T_a.out _ HB5.out))
            go_wp2_with fail
            refine CC.out.mono ?_
            clear CC
            rintro e w6 ⟨A_n, c_n, rfl, hs, hb⟩
            have HB6 := Lib.hid (HB5.out.trans (hb.mono HB5.out.size))
            have T_n := Lib.hid hs.top
            clear hb hs
            have CC := (show Calls Try.prog 22 #[.slice A_n (nm a).length c_n, .int .i64 k] w6 fun e w' => e = .returned (.bool false) ∧ Below w6.heap.size w6 w' from by have C := has_all (nm a) A_n c_n k w6 T_n.out; rw [show has (nm a) k = false by rw [has_nm, hx]] at C; exact C)
            go_wp2_with fail
            refine CC.mono ?_
            clear CC
            rintro e w7 ⟨rfl, hb⟩
            have HB7 := Lib.hid (HB6.out.trans (hb.mono HB6.out.size))
            clear hb
            go_wp2_with fail
            go_roundw
            case rel => exact ⟨j + 1, by omega, by go_num, HB7.out⟩
            case measure => simp [intOf]; omega
          · obtain ⟨w0, rfl⟩ : ∃ w0 : World, w0 = wr := ⟨_, rfl⟩
            have CC := (show Calls Try.prog 22 #[.slice A_a a.length c_a, .int .i64 k] w0 fun e w' => e = .returned (.bool false) ∧ Below w0.heap.size w0 w' from by have C := has_all a A_a c_a k w0 (T_a.out _ HB0.out); rw [show has a k = false by exact hx] at C; exact C)
            go_wp2_with fail
            refine CC.mono ?_
            clear CC
            rintro e w1 ⟨rfl, hb⟩
            have HB1 := Lib.hid (HB0.out.trans (hb.mono HB0.out.size))
            clear hb
            have CC := (show Calls Try.prog 22 #[.slice A_b b.length c_b, .int .i64 k] w1 fun e w' => e = .returned (.bool true) ∧ Below w1.heap.size w1 w' from by have C := has_all b A_b c_b k w1 (T_b.out _ HB1.out); rw [show has b k = true by exact hy] at C; exact C)
            go_wp2_with fail
            refine CC.mono ?_
            clear CC
            rintro e w2 ⟨rfl, hb⟩
            have HB2 := Lib.hid (HB1.out.trans (hb.mono HB1.out.size))
            clear hb
            have CC := (show Calls Try.prog 22 #[.slice A_v1 U.length c_v1, .int .i64 k] w2 fun e w' => e = .returned (.bool true) ∧ Below w2.heap.size w2 w' from by have C := has_all U A_v1 c_v1 k w2 (T_v1.out _ HB2.out); rw [show has U k = true by rw [QU.out, hx, hy]; rfl] at C; exact C)
            go_wp2_with fail
            refine CC.mono ?_
            clear CC
            rintro e w3 ⟨rfl, hb⟩
            have HB3 := Lib.hid (HB2.out.trans (hb.mono HB2.out.size))
            clear hb
            have CC := (show Calls Try.prog 22 #[.slice A_v2 M.length c_v2, .int .i64 k] w3 fun e w' => e = .returned (.bool false) ∧ Below w3.heap.size w3 w' from by have C := has_all M A_v2 c_v2 k w3 (T_v2.out _ HB3.out); rw [show has M k = false by rw [QM.out, hx, hy]; rfl] at C; exact C)
            go_wp2_with fail
            refine CC.mono ?_
            clear CC
            rintro e w4 ⟨rfl, hb⟩
            have HB4 := Lib.hid (HB3.out.trans (hb.mono HB3.out.size))
            clear hb
            have CC := (show Calls Try.prog 22 #[.slice A_v3 D.length c_v3, .int .i64 k] w4 fun e w' => e = .returned (.bool false) ∧ Below w4.heap.size w4 w' from by have C := has_all D A_v3 c_v3 k w4 (T_v3.out _ HB4.out); rw [show has D k = false by rw [QD.out, hx, hy]; rfl] at C; exact C)
            go_wp2_with fail
            refine CC.mono ?_
            clear CC
            rintro e w5 ⟨rfl, hb⟩
            have HB5 := Lib.hid (HB4.out.trans (hb.mono HB4.out.size))
            clear hb
            have CC := Lib.hid (normal_all a A_a c_a w5 (by omega) (T_a.out _ HB5.out))
            go_wp2_with fail
            refine CC.out.mono ?_
            clear CC
            rintro e w6 ⟨A_n, c_n, rfl, hs, hb⟩
            have HB6 := Lib.hid (HB5.out.trans (hb.mono HB5.out.size))
            have T_n := Lib.hid hs.top
            clear hb hs
            have CC := (show Calls Try.prog 22 #[.slice A_n (nm a).length c_n, .int .i64 k] w6 fun e w' => e = .returned (.bool false) ∧ Below w6.heap.size w6 w' from by have C := has_all (nm a) A_n c_n k w6 T_n.out; rw [show has (nm a) k = false by rw [has_nm, hx]] at C; exact C)
            go_wp2_with fail
            refine CC.mono ?_
            clear CC
            rintro e w7 ⟨rfl, hb⟩
            have HB7 := Lib.hid (HB6.out.trans (hb.mono HB6.out.size))
            clear hb
            go_wp2_with fail
            go_roundw
            case rel => exact ⟨j + 1, by omega, by go_num, HB7.out⟩
            case measure => simp [intOf]; omega
          · obtain ⟨w0, rfl⟩ : ∃ w0 : World, w0 = wr := ⟨_, rfl⟩
            have CC := (show Calls Try.prog 22 #[.slice A_a a.length c_a, .int .i64 k] w0 fun e w' => e = .returned (.bool true) ∧ Below w0.heap.size w0 w' from by have C := has_all a A_a c_a k w0 (T_a.out _ HB0.out); rw [show has a k = true by exact hx] at C; exact C)
            go_wp2_with fail
            refine CC.mono ?_
            clear CC
            rintro e w1 ⟨rfl, hb⟩
            have HB1 := Lib.hid (HB0.out.trans (hb.mono HB0.out.size))
            clear hb
            have CC := (show Calls Try.prog 22 #[.slice A_b b.length c_b, .int .i64 k] w1 fun e w' => e = .returned (.bool false) ∧ Below w1.heap.size w1 w' from by have C := has_all b A_b c_b k w1 (T_b.out _ HB1.out); rw [show has b k = false by exact hy] at C; exact C)
            go_wp2_with fail
            refine CC.mono ?_
            clear CC
            rintro e w2 ⟨rfl, hb⟩
            have HB2 := Lib.hid (HB1.out.trans (hb.mono HB1.out.size))
            clear hb
            have CC := (show Calls Try.prog 22 #[.slice A_v1 U.length c_v1, .int .i64 k] w2 fun e w' => e = .returned (.bool true) ∧ Below w2.heap.size w2 w' from by have C := has_all U A_v1 c_v1 k w2 (T_v1.out _ HB2.out); rw [show has U k = true by rw [QU.out, hx, hy]; rfl] at C; exact C)
            go_wp2_with fail
            refine CC.mono ?_
            clear CC
            rintro e w3 ⟨rfl, hb⟩
            have HB3 := Lib.hid (HB2.out.trans (hb.mono HB2.out.size))
            clear hb
            have CC := (show Calls Try.prog 22 #[.slice A_v2 M.length c_v2, .int .i64 k] w3 fun e w' => e = .returned (.bool false) ∧ Below w3.heap.size w3 w' from by have C := has_all M A_v2 c_v2 k w3 (T_v2.out _ HB3.out); rw [show has M k = false by rw [QM.out, hx, hy]; rfl] at C; exact C)
            go_wp2_with fail
            refine CC.mono ?_
            clear CC
            rintro e w4 ⟨rfl, hb⟩
            have HB4 := Lib.hid (HB3.out.trans (hb.mono HB3.out.size))
            clear hb
            have CC := (show Calls Try.prog 22 #[.slice A_v3 D.length c_v3, .int .i64 k] w4 fun e w' => e = .returned (.bool true) ∧ Below w4.heap.size w4 w' from by have C := has_all D A_v3 c_v3 k w4 (T_v3.out _ HB4.out); rw [show has D k = true by rw [QD.out, hx, hy]; rfl] at C; exact C)
            go_wp2_with fail
            refine CC.mono ?_
            clear CC
            rintro e w5 ⟨rfl, hb⟩
            have HB5 := Lib.hid (HB4.out.trans (hb.mono HB4.out.size))
            clear hb
            have CC := Lib.hid (normal_all a A_a c_a w5 (by omega) (T_a.out _ HB5.out))
            go_wp2_with fail
            refine CC.out.mono ?_
            clear CC
            rintro e w6 ⟨A_n, c_n, rfl, hs, hb⟩
            have HB6 := Lib.hid (HB5.out.trans (hb.mono HB5.out.size))
            have T_n := Lib.hid hs.top
            clear hb hs
            have CC := (show Calls Try.prog 22 #[.slice A_n (nm a).length c_n, .int .i64 k] w6 fun e w' => e = .returned (.bool true) ∧ Below w6.heap.size w6 w' from by have C := has_all (nm a) A_n c_n k w6 T_n.out; rw [show has (nm a) k = true by rw [has_nm, hx]] at C; exact C)
            go_wp2_with fail
            refine CC.mono ?_
            clear CC
            rintro e w7 ⟨rfl, hb⟩
            have HB7 := Lib.hid (HB6.out.trans (hb.mono HB6.out.size))
            clear hb
            go_wp2_with fail
            go_roundw
            case rel => exact ⟨j + 1, by omega, by go_num, HB7.out⟩
            case measure => simp [intOf]; omega
          · obtain ⟨w0, rfl⟩ : ∃ w0 : World, w0 = wr := ⟨_, rfl⟩
            have CC := (show Calls Try.prog 22 #[.slice A_a a.length c_a, .int .i64 k] w0 fun e w' => e = .returned (.bool true) ∧ Below w0.heap.size w0 w' from by have C := has_all a A_a c_a k w0 (T_a.out _ HB0.out); rw [show has a k = true by exact hx] at C; exact C)
            go_wp2_with fail
            refine CC.mono ?_
            clear CC
            rintro e w1 ⟨rfl, hb⟩
            have HB1 := Lib.hid (HB0.out.trans (hb.mono HB0.out.size))
            clear hb
            have CC := (show Calls Try.prog 22 #[.slice A_b b.length c_b, .int .i64 k] w1 fun e w' => e = .returned (.bool true) ∧ Below w1.heap.size w1 w' from by have C := has_all b A_b c_b k w1 (T_b.out _ HB1.out); rw [show has b k = true by exact hy] at C; exact C)
            go_wp2_with fail
            refine CC.mono ?_
            clear CC
            rintro e w2 ⟨rfl, hb⟩
            have HB2 := Lib.hid (HB1.out.trans (hb.mono HB1.out.size))
            clear hb
            have CC := (show Calls Try.prog 22 #[.slice A_v1 U.length c_v1, .int .i64 k] w2 fun e w' => e = .returned (.bool true) ∧ Below w2.heap.size w2 w' from by have C := has_all U A_v1 c_v1 k w2 (T_v1.out _ HB2.out); rw [show has U k = true by rw [QU.out, hx, hy]; rfl] at C; exact C)
            go_wp2_with fail
            refine CC.mono ?_
            clear CC
            rintro e w3 ⟨rfl, hb⟩
            have HB3 := Lib.hid (HB2.out.trans (hb.mono HB2.out.size))
            clear hb
            have CC := (show Calls Try.prog 22 #[.slice A_v2 M.length c_v2, .int .i64 k] w3 fun e w' => e = .returned (.bool true) ∧ Below w3.heap.size w3 w' from by have C := has_all M A_v2 c_v2 k w3 (T_v2.out _ HB3.out); rw [show has M k = true by rw [QM.out, hx, hy]; rfl] at C; exact C)
            go_wp2_with fail
            refine CC.mono ?_
            clear CC
            rintro e w4 ⟨rfl, hb⟩
            have HB4 := Lib.hid (HB3.out.trans (hb.mono HB3.out.size))
            clear hb
            have CC := (show Calls Try.prog 22 #[.slice A_v3 D.length c_v3, .int .i64 k] w4 fun e w' => e = .returned (.bool false) ∧ Below w4.heap.size w4 w' from by have C := has_all D A_v3 c_v3 k w4 (T_v3.out _ HB4.out); rw [show has D k = false by rw [QD.out, hx, hy]; rfl] at C; exact C)
            go_wp2_with fail
            refine CC.mono ?_
            clear CC
            rintro e w5 ⟨rfl, hb⟩
            have HB5 := Lib.hid (HB4.out.trans (hb.mono HB4.out.size))
            clear hb
            have CC := Lib.hid (normal_all a A_a c_a w5 (by omega) (T_a.out _ HB5.out))
            go_wp2_with fail
            refine CC.out.mono ?_
            clear CC
            rintro e w6 ⟨A_n, c_n, rfl, hs, hb⟩
            have HB6 := Lib.hid (HB5.out.trans (hb.mono HB5.out.size))
            have T_n := Lib.hid hs.top
            clear hb hs
            have CC := (show Calls Try.prog 22 #[.slice A_n (nm a).length c_n, .int .i64 k] w6 fun e w' => e = .returned (.bool true) ∧ Below w6.heap.size w6 w' from by have C := has_all (nm a) A_n c_n k w6 T_n.out; rw [show has (nm a) k = true by rw [has_nm, hx]] at C; exact C)
            go_wp2_with fail
            refine CC.mono ?_
            clear CC
            rintro e w7 ⟨rfl, hb⟩
            have HB7 := Lib.hid (HB6.out.trans (hb.mono HB6.out.size))
            clear hb
            go_wp2_with fail
            go_roundw
            case rel => exact ⟨j + 1, by omega, by go_num, HB7.out⟩
            case measure => simp [intOf]; omega
        · obtain rfl : j = 4 := by omega
          go_wp2_with fail
          go_ret
          exact ⟨rfl, WY0.out.trans (HB0.out.mono WY0.out.size)⟩

set_option maxRecDepth 100000 in
theorem days_lifted (os : Os) (started : os.Started) (H : Type) (enc : TypeId × Value → H) :
    ReturnsInHanded {} Try.checked os 5 .any (Rows.spansDaysSpec.pre6 enc Try.prog Try.f5 Rows.spansDaysRow.domain false) (Rows.spansDaysSpec.post enc Try.prog Try.f5 false true false false) := by
  refine returnsInHanded_of_change (C := Try.checked) prog_own started (by kernel_rfl) Try.func5
    (ChangeSpec.witness6 (enc := enc) (C := Try.checked) false ⟨#[], #[.slice none 0 0, .slice none 0 0, .int .i64 0], []⟩ 8 (by kernel_rfl) (by kernel_rfl) (by kernel_rfl) (by kernel_rfl)) ?_
  intro W base args ds gs before hval0 hW _ _
  have hval : ∀ (j : Nat) t v, Try.f5.params[j]? = some t → args[j]? = some v → Value.okWide Try.prog W .any base t v := hval0
  have hW' : DataW.Whole enc Try.prog Try.f5.params.toList Rows.spansDaysSpec.vars false W args.toList ds gs before := hW
  obtain ⟨p, q, hA0, _, _, _, _⟩ := hW
  have hA : DataW.TrodAll enc Try.prog W 0 (fun _ => true) true Try.f5.params.toList args.toList ds p := hA0
  rw [Try.params5] at hA hval
  obtain ⟨v0, v1, v2, e0, e1, e2, p0, p1, p2, rfl, rfl, rfl, h0, h1, h2⟩ := trodAll_three hA
  obtain ⟨x0, A0, c0, rfl, hx0⟩ := arg_spans (hval 0 22 v0 rfl rfl) h0
  obtain ⟨x1, A1, c1, rfl, hx1⟩ := arg_spans (hval 1 22 v1 rfl rfl) h1
  obtain ⟨b2, rfl, rfl, rfl, _⟩ := open_int Try.underlying3 (hval 2 3 v2 rfl rfl) h2
  refine (days_all x0 x1 b2 A0 c0 A1 c1 W hx0 hx1).mono fun e W' ⟨he, hb⟩ => ?_
  subst he
  exact ⟨_, rfl, law_post rfl (fun ds hd => by
    match ds, hd with
    | [_, _, _], _ => rfl) (by kernel_rfl) (by
    rw [Try.params5]
    intro t ht
    simp only [List.mem_cons, List.not_mem_nil, or_false] at ht
    rcases ht with rfl | rfl | rfl
    · exact p_spans
    · exact p_spans
    · exact p_int) rfl hW' hb⟩

theorem days_holds : Rows.SpansDaysSaid :=
  OpenClaim.holds_of_wide 5 Try.f5 rfl rfl rfl rfl rfl rfl rfl ⟨rfl, rfl, rfl, rfl, rfl⟩ rfl rfl rfl rfl rfl (by kernel_rfl) Try.func5 (by kernel_rfl)
    (of_decide_eq_true (by kernel_rfl)) (by unfold Func.isWrapper; first | (rw [if_pos (by decide +kernel)]; kernel_rfl) | (rw [if_neg (by decide +kernel)]; exact ⟨rfl, rfl⟩))
    (fun os started H enc _ => days_lifted os started H enc)
end Go.Proofs.Ytofjbplojhlnoaa
