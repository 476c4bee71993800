/- Several texts joined: parts LI LJ LK. -/
import Derived.Test.YteicbdjennjcdaaDoorW05
import Derived.Test.YteicbdjennjcdaaDoorW09
import Derived.Test.YteicbdjennjcdaaDoorW10
namespace Go.Proofs.YteicbdjennjcdaaDoor
section
set_option maxRecDepth 100000
open Go.RowKit

set_option maxRecDepth 100000 in
set_option maxHeartbeats 1600000 in
theorem rnode_all (a b : List UInt8) (w : World) (ha : a.length = 32) (hb : b.length = 32) :
    Calls Tryd.prog 69 #[.agg (U a).toArray, .agg (U b).toArray] w fun e w' => e = .returned (.agg (U (noded a b)).toArray) ∧ Below w.heap.size w w' := by
  have HA := Lib.hid ha
  have HB := Lib.hid hb
  clear ha hb
  go_enter Tryd.func69, Tryd.ntmps69
  go_wp2_with fail
  generalize hW1 : ((w.alloc _).alloc _).alloc _ = W1
  obtain ⟨h0, h1, h2, hb1, hz1⟩ := box3 w (U a).toArray (U b).toArray (U (flb 32 [])).toArray 23 23 23 W1 hW1
  clear hW1
  have ra : RowB W1 w.heap.size 23 a := h0
  have rb : RowB W1 (w.heap.size + 1) 23 b := h1
  have rd : RowB W1 (w.heap.size + 2) 23 (flb 32 []) := h2
  have KE := Lib.hid (show ∀ ww, Below W1.heap.size W1 ww → RowB ww w.heap.size 23 a ∧ RowB ww (w.heap.size + 1) 23 b ∧ RowB ww (w.heap.size + 2) 23 (flb 32 []) ∧ Below w.heap.size w ww from fun ww h =>
    ⟨ra.keep (h.block _ (by omega)), rb.keep (h.block _ (by omega)), rd.keep (h.block _ (by omega)), hb1.trans (h.mono (by omega))⟩)
  have STEP := Lib.hid (show ∀ ww w', Below W1.heap.size W1 ww → Below ww.heap.size ww w' → Below W1.heap.size W1 w' from fun ww w' h1 h2 => h1.trans (h2.mono h1.size))
  have ct : ∀ A4 c4 ww, Byt ww (· < ww.heap.size) (a ++ b) A4 c4 → Below W1.heap.size W1 ww → Calls Tryd.prog 43 #[.string nodeT, .slice A4 (a.length + b.length) c4] ww fun e w' => e = .returned (.agg (U (noded a b)).toArray) ∧ Below W1.heap.size W1 w' := by
    intro A4 c4 ww hy h
    have := rtagged_all nodeT (a ++ b) A4 c4 ww (by decide) (by rw [List.length_append, HA.out, HB.out]; omega) hy
    rw [List.length_append] at this
    exact this.mono fun e w' ⟨he, hb'⟩ => ⟨he, STEP.out _ _ h hb'⟩
  have CT := Lib.hid ct
  have hul : (U (noded a b)).length = 32 := by rw [U_length]; exact tagd_len _ _
  clear ct ra rb rd h0 h1 h2 hb1 hz1
  have hbx : Below W1.heap.size W1 W1.drew := (Below.refl _ _).drew
  go_region_law
    (first
      | (refine step_app_new rfl (.tmp 5) (.tmp 6) rfl _ w.heap.size 32 23 a rfl rfl HA.out.symm (by omega) (KE.out _ hbx).1 (by rw [HA.out]; omega) ?_; intro A4 c4 w4 ho4 hb4; have HO4 := Lib.hid ho4; have hbs := hbx.size; have hz4 := hb4.size; have hby := STEP.out _ _ hbx hb4; clear hbx ho4 hb4; have hbx := hby; clear hby)
      | (refine step_app_new rfl (.tmp 5) (.tmp 6) rfl _ w.heap.size 32 23 a rfl rfl HA.out.symm (by omega) (KE.out _ (hbx.alloc hbx.size (.cells #[] 5))).1 (by rw [HA.out]; omega) ?_; intro A4 c4 w4 ho4 hb4; have HO4 := Lib.hid ho4; have hbs := (hbx.alloc hbx.size (.cells #[] 5)).size; have hz4 := hb4.size; have hby := STEP.out _ _ (hbx.alloc hbx.size (.cells #[] 5)) hb4; clear hbx ho4 hb4; have hbx := hby; clear hby)
      | (refine step_app_own rfl (.tmp 7) (.tmp 8) rfl _ _ _ _ _ a b rfl (by rw [HB.out]; rfl) HO4.out ((KE.out _ hbx).2.1.byt32 HB.out) (by rw [HA.out, HB.out]; simp) hz4 ?_; intro v6 w6 ho6 hg6; obtain ⟨A6, c6, e6, hy6⟩ := ho6.byt; subst e6; have HY6 := Lib.hid (hy6.keep (w' := w6) (S' := (· < w6.heap.size)) fun i hi => ⟨hi.2, rfl⟩); have hby := below_own hbx hg6 HO4.out hbs hbx.size; clear hbx ho6 hg6 hy6; have hbx := hby; clear hby)
      | (go_simp; go_at_call 43; (first | (with_reducible refine (CT.out _ _ _ HY6.out hbx).mono ?_) | refine (CT.out _ _ _ HY6.out hbx).mono ?_); rintro e w7 ⟨rfl, hb'⟩; clear hbx; have hbx := hb'; clear hb'; obtain ⟨hst1, hst2⟩ := st_row w7 _ _ _ _ (KE.out _ hbx).2.2.1 (by simp [flb]) (show (noded a b).length = 32 from tagd_len _ _)))
  all_goals
    have hr9 := (KE.out _ hbx).2.2.1.setRow (noded a b)
    clear hst1 hst2
    go_wp2_with fail
    exact bodyPost_ret (res_B rfl _ _ _ _ _ rfl hr9 (tagd_len _ _)) rfl ⟨rfl, below_setRow (KE.out _ hbx).2.2.2 (by omega) _⟩
end
section
set_option maxRecDepth 100000
open Go.RowKit

theorem two_pow_eq {n t k : Nat} (h1 : 2 ^ t < n) (h2 : n ≤ 2 * 2 ^ t) (h3 : 2 ^ k < n) (h4 : n ≤ 2 * 2 ^ k) : t = k := by
  have a : t < k + 1 := by
    rw [← Nat.pow_lt_pow_iff_right (a := 2) (by omega), Nat.pow_succ]
    omega
  have b : k < t + 1 := by
    rw [← Nat.pow_lt_pow_iff_right (a := 2) (by omega), Nat.pow_succ]
    omega
  omega
theorem hf_of_pow {n t : Nat} (h : 2 ≤ n) (hn : n ≤ 2 ^ 64) (h1 : 2 ^ t < n) (h2 : n ≤ 2 * 2 ^ t) : 2 ^ t = hf n := by
  obtain ⟨k, _, e, h3, h4, _⟩ := hf_spec n h hn
  rw [e] at h3 h4
  rw [e, two_pow_eq h1 h2 h3 h4]

set_option maxHeartbeats 800000 in
theorem half_all (n : Nat) (w : World) (h1 : 2 ≤ n) (h2 : n ≤ 2199023255552) :
    Calls Tryd.prog 68 #[.int .i64 n] w fun e w' => e = .returned (.int .i64 (hf n)) ∧ w' = w := by
  obtain ⟨K, hK⟩ : ∃ K, K = hf n := ⟨_, rfl⟩
  have HPOW := Lib.hid (show ∀ t : Nat, 2 ^ t < n → n ≤ 2 * 2 ^ t → 2 ^ t = K from fun t a b => by rw [hK]; exact hf_of_pow (by omega) (by omega) a b)
  rw [← hK]
  clear hK
  go_enter Tryd.func68, Tryd.ntmps68
  go_wp2_with fail
  go_loop [3] (fun x => ∃ t : Nat, x = .int .i64 (2 ^ t : Nat) ∧ 2 ^ t < n) (fun x => n - (intOf x).toNat)
  case atStart => exact ⟨0, rfl, by omega⟩
  case round =>
    obtain ⟨t, rfl, ht⟩ := hrel
    have HP1 := Lib.hid (HPOW.out t ht)
    have HT := Lib.hid (show 2 * 2 ^ t = 2 ^ (t + 1) by rw [Nat.pow_succ]; omega)
    have hpos : 0 < 2 ^ t := Nat.pos_of_ne_zero (by simp)
    obtain ⟨x, hx⟩ : ∃ x, x = 2 ^ t := ⟨_, rfl⟩
    rw [← hx] at ht hpos HP1 HT ⊢
    clear hx
    by_cases h2x : 2 * x < n
    · clear HP1
      go_wp2_with fail
      go_round
      case rel => exact ⟨t + 1, by rw [← HT.out]; go_num, by rw [← HT.out]; omega⟩
      case measure => simp [intOf]; omega
    · have HE := Lib.hid (HP1.out (by omega))
      clear HP1
      go_wp2_with fail
      go_ret
      exact ⟨ret_int (by rw [HE.out]), rfl⟩

set_option maxHeartbeats 800000 in
theorem rlength_all (f : Nat) : ∀ (i n : Nat) (w : World), i < n → n ≤ f → f ≤ 2199023255552 →
    Calls Tryd.prog 83 #[.int .i64 i, .int .i64 n] w fun e w' => e = .returned (.int .i64 (stp f i n)) ∧ w' = w := by
  induction f with
  | zero => intro i n w h1 h2; omega
  | succ f ih =>
    intro i n w h1 h2 h3
    have hs := stp_le f
    by_cases hn : n = 1
    · subst hn
      have HS := Lib.hid (show stp (f + 1) i 1 = 0 by rw [stp, if_pos (by omega)])
      go_enter Tryd.func83, Tryd.ntmps83
      go_wp2_with fail
      go_ret
      exact ⟨ret_int (by rw [HS.out]; rfl), rfl⟩
    · obtain ⟨k, _, _, hk1, hk2, hk3⟩ := hf_spec n (by omega) (by omega)
      obtain ⟨K, hK⟩ : ∃ K, K = hf n := ⟨_, rfl⟩
      have C := Lib.hid (half_all n w (by omega) (by omega))
      rw [← hK] at hk1 hk2 hk3 C
      by_cases hi : i < K
      · have HS := Lib.hid (show stp (f + 1) i n = 1 + stp f i K by rw [stp, if_neg (by omega), ← hK, if_pos hi])
        have C2 := Lib.hid (ih i K w hi (by omega) (by omega))
        have hb := hs i K
        clear hK ih hs
        go_enter Tryd.func83, Tryd.ntmps83
        go_wp2_with fail
        refine C.out.mono ?_
        rintro e w' ⟨rfl, rfl⟩
        go_wp2_with fail
        refine C2.out.mono ?_
        rintro e w' ⟨rfl, rfl⟩
        go_wp2_with fail
        go_ret
        exact ⟨ret_int (by rw [HS.out]; omega), rfl⟩
      · have HS := Lib.hid (show stp (f + 1) i n = 1 + stp f (i - K) (n - K) by rw [stp, if_neg (by omega), ← hK, if_neg hi])
        have C2 := Lib.hid (ih (i - K) (n - K) w (by omega) (by omega) (by omega))
        have hb := hs (i - K) (n - K)
        have e1 : ((i - K : Nat) : Int) = (i : Int) - K := by omega
        have e2 : ((n - K : Nat) : Int) = (n : Int) - K := by omega
        rw [e1, e2] at C2
        clear hK ih hs e1 e2
        go_enter Tryd.func83, Tryd.ntmps83
        go_wp2_with fail
        refine C.out.mono ?_
        rintro e w' ⟨rfl, rfl⟩
        go_wp2_with fail
        refine C2.out.mono ?_
        rintro e w' ⟨rfl, rfl⟩
        go_wp2_with fail
        go_ret
        exact ⟨ret_int (by rw [HS.out]; omega), rfl⟩

set_option maxRecDepth 100000 in
set_option maxHeartbeats 1600000 in
theorem rtree_nil (A : Option Addr) (cap : Nat) (w : World) :
    Calls Tryd.prog 34 #[.slice A 0 cap] w fun e w' => e = .returned (.agg (U emptyd).toArray) ∧ Below w.heap.size w w' := by
  obtain ⟨W1, hW1⟩ : ∃ W1, w.alloc (.cells (U (flb 32 [])).toArray 23) = W1 := ⟨_, rfl⟩
  obtain ⟨hr0, hb1, hz1⟩ := box1 w (U (flb 32 [])).toArray 23 W1 hW1
  have C := Lib.hid (rtagged_all emptyT [] none 0 W1 (by decide) (by simp) (byt_nil _ _))
  have HR0 := Lib.hid hr0
  have HB1 := Lib.hid hb1
  have HW1 := Lib.hid hW1
  clear hr0 hb1 hW1
  go_enter Tryd.func34, Tryd.ntmps34
  go_wp2_with fail
  generalize hW1' : w.alloc _ = W1'
  have e9 : W1' = W1 := hW1'.symm.trans HW1.out
  clear hW1'
  rw [e9]
  clear e9 W1'
  refine C.out.mono ?_
  rintro e w2 ⟨rfl, hb2⟩
  have hd2 : RowB w2 w.heap.size 23 (flb 32 []) := (hb2.block _ (by omega)).trans HR0.out
  have hr2 := hd2.setRow emptyd
  have HB2 := Lib.hid (HB1.out.trans (hb2.mono (by omega)))
  clear C hb2
  go_wp2_with (refine store_B rfl (.tmp 2) (.tmp 7) rfl w.heap.size (flb 32 []) emptyd rfl rfl 23 hd2 (tagd_len _ _) (by simp [flb]) ?_)
  exact bodyPost_ret (res_B rfl _ _ _ _ _ rfl hr2 (tagd_len _ _)) rfl ⟨rfl, below_setRow HB2.out (Nat.le_refl _) _⟩

set_option maxRecDepth 100000 in
set_option maxHeartbeats 3200000 in
theorem rtree_all (f : Nat) : ∀ (L : List (List UInt8)) (A : Option Addr) (cap : Nat) (w : World), L.length ≤ f → f ≤ 2199023255552 → DL w (· < w.heap.size) L A cap →
    Calls Tryd.prog 34 #[.slice A L.length cap] w fun e w' => e = .returned (.agg (U (tree f L)).toArray) ∧ Below w.heap.size w w' := by
  induction f with
  | zero =>
    intro L A cap w hfu _ hl
    obtain rfl : L = [] := List.eq_nil_of_length_eq_zero (by omega)
    exact rtree_nil A cap w
  | succ f ih =>
    intro L A cap w hfu hf2 hl
    by_cases h0 : L = []
    · subst h0
      exact rtree_nil A cap w
    have HL := Lib.hid hl
    obtain ⟨W1, hW1⟩ : ∃ W1, w.alloc (.cells (U (flb 32 [])).toArray 23) = W1 := ⟨_, rfl⟩
    obtain ⟨hr0, hb1, hz1⟩ := box1 w (U (flb 32 [])).toArray 23 W1 hW1
    have HR0 := Lib.hid (show RowB W1 w.heap.size 23 (flb 32 []) from hr0)
    have HB1 := Lib.hid hb1
    have HZ1 := Lib.hid hz1
    have hcap := hl.1
    have hcm := hl.2.1
    -- what stays
    have hkeep : ∀ ww, Below W1.heap.size W1 ww → DL ww (· < ww.heap.size) L A cap ∧ RowB ww w.heap.size 23 (flb 32 []) ∧ Below w.heap.size w ww := fun ww h => by
      have hw : Below w.heap.size w ww := hb1.trans (h.mono (by omega))
      have := hw.size
      exact ⟨hl.keep fun i hi => ⟨by omega, hw.block i hi⟩, hr0 |> fun x => (h.block _ (by omega)).trans x, hw⟩
    have KEEP := Lib.hid hkeep
    have HW1 := Lib.hid hW1
    clear hl hr0 hb1 hz1 hkeep hW1
    focus
      by_cases h1 : L.length = 1
      · obtain ⟨d, rfl⟩ := List.length_eq_one_iff.1 h1
        have hd := HL.out.2.2.2.1 d (List.mem_singleton_self d)
        obtain ⟨b, o, rfl, hS, _⟩ := HL.out.2.2.2.2 (by simp)
        obtain ⟨hl1, _, _⟩ := KEEP.out W1 (Below.refl _ _)
        obtain ⟨b', o', e, hSS, hc⟩ := hl1.2.2.2.2 (by simp)
        injection e with e
        injection e with e1 e2
        subst e1 e2
        have hd0 := hc 0 d rfl
        rw [Nat.zero_mul, Nat.add_zero] at hd0
        have C := Lib.hid (show Calls Tryd.prog 43 #[.string leafT, .slice (some ⟨b, o, none⟩) 32 32] W1 fun e w' => e = .returned (.agg (U (leafd d)).toArray) ∧ Below W1.heap.size W1 w' from by
          have := rtagged_all leafT d (some ⟨b, o, none⟩) 32 W1 (by decide) (by omega) ⟨by omega, max32, (fun e => by cases e), fun _ => ⟨b, o, rfl, hSS, hd0⟩⟩
          rwa [hd] at this)
        rw [← HW1.out] at C
        clear hl1 hc hd0 h0 h1 hS hSS
        go_enter Tryd.func34, Tryd.ntmps34
        go_wp2_with fail
        refine C.out.mono ?_
        rintro e w2 ⟨rfl, hb2⟩
        rw [HW1.out] at hb2
        obtain ⟨_, hd2, hbw⟩ := KEEP.out w2 hb2
        have HBW := Lib.hid hbw
        have hr2 := hd2.setRow (leafd d)
        clear C hb2 hbw
        go_wp2_with (refine store_B rfl (.tmp 2) (.tmp 14) rfl w.heap.size (flb 32 []) (leafd d) rfl rfl 23 hd2 (tagd_len _ _) (by simp [flb]) ?_)
        exact bodyPost_ret (res_B rfl _ _ _ _ _ rfl hr2 (tagd_len _ _)) rfl ⟨rfl, below_setRow HBW.out (Nat.le_refl _) _⟩
      · obtain ⟨k, _, _, hk1, hk2, hk3⟩ := hf_spec L.length (by have := List.length_pos_iff.2 h0; omega) (by omega)
        obtain ⟨K, hK⟩ : ∃ K, K = hf L.length := ⟨_, rfl⟩
        have C := Lib.hid (half_all L.length W1 (by omega) (by omega))
        have HT := Lib.hid (show tree (f + 1) L = noded (tree f (L.take K)) (tree f (L.drop K)) by rw [hK]; exact tree_two f L (by omega))
        rw [← hK] at hk1 hk2 hk3 C
        obtain ⟨b, o, rfl, hS, _⟩ := HL.out.2.2.2.2 (by omega)
        have ca : ∀ ww, Below W1.heap.size W1 ww → Calls Tryd.prog 34 #[.slice (some ⟨b, o, none⟩) K cap] ww fun e w' => e = .returned (.agg (U (tree f (L.take K))).toArray) ∧ Below ww.heap.size ww w' := fun ww h => by
          have hlk : (L.take K).length = K := by rw [List.length_take]; omega
          have := ih (L.take K) (some ⟨b, o, none⟩) cap ww (by omega) (by omega) ((KEEP.out ww h).1.take K)
          rwa [hlk] at this
        have cb : ∀ ww, Below W1.heap.size W1 ww → Calls Tryd.prog 34 #[.slice (some ⟨b, o + K * 32, none⟩) (L.length - K) (cap - K)] ww fun e w' => e = .returned (.agg (U (tree f (L.drop K))).toArray) ∧ Below ww.heap.size ww w' := fun ww h => by
          have := ih (L.drop K) (some ⟨b, o + K * 32, none⟩) (cap - K) ww (by rw [List.length_drop]; omega) (by omega) ((KEEP.out ww h).1.drop K)
          rwa [List.length_drop] at this
        have cn : ∀ ww, Below W1.heap.size W1 ww → Calls Tryd.prog 69 #[.agg (U (tree f (L.take K))).toArray, .agg (U (tree f (L.drop K))).toArray] ww fun e w' => e = .returned (.agg (U (tree (f + 1) L)).toArray) ∧ Below ww.heap.size ww w' := fun ww h => by
          rw [HT.out]
          exact rnode_all _ _ ww (tree_len _ _) (tree_len _ _)
        have CA := Lib.hid ca
        have CB := Lib.hid cb
        have CN := Lib.hid cn
        have STEP := Lib.hid (show ∀ ww w', Below W1.heap.size W1 ww → Below ww.heap.size ww w' → Below W1.heap.size W1 w' from fun ww w' h1 h2 => h1.trans (h2.mono h1.size))
        have hn : ¬ L.length = 0 := by omega
        have hul : (U (tree (f + 1) L)).length = 32 := by rw [U_length, tree_len]
        clear hK h0 ca cb cn
        go_enter Tryd.func34, Tryd.ntmps34
        go_wp2_with fail
        generalize hW1' : w.alloc _ = W1'
        have e9 : W1' = W1 := hW1'.symm.trans HW1.out
        clear hW1'
        rw [e9]
        clear e9 W1'
        refine C.out.mono ?_
        rintro e w' ⟨rfl, hw'⟩
        rw [hw']
        clear hw' w'
        go_wp2_with fail
        have hbx : Below W1.heap.size W1 W1.drew := (Below.refl _ _).drew
        have b1 : K ≤ cap := by omega
        have b2 : K ≤ L.length := by omega
        have b3 : K < cap := by omega
        have b4 : (K : Int) ≤ cap := by omega
        have b5 : (K : Int) ≤ L.length := by omega
        have b6 : ¬ cap = K := by omega
        go_region_law
          (first
            | (go_simp; go_at_call 34; (first | (with_reducible refine (CA.out _ hbx).mono ?_) | (with_reducible refine (CB.out _ hbx).mono ?_)); rintro e w5 ⟨rfl, hb'⟩; have hby := STEP.out _ _ hbx hb'; clear hbx hb'; have hbx := hby; clear hby)
            | (go_simp; go_at_call 69; (with_reducible refine (CN.out _ hbx).mono ?_); rintro e w7 ⟨rfl, hb'⟩; have hby := STEP.out _ _ hbx hb'; clear hbx hb'; have hbx := hby; clear hby; obtain ⟨hst1, hst2⟩ := st_row w7 _ _ _ _ (KEEP.out _ hbx).2.1 (by simp [flb]) (tree_len (f + 1) L)))
        have hr9 := (KEEP.out _ hbx).2.1.setRow (tree (f + 1) L)
        clear hst1 hst2
        go_wp2_with fail
        exact bodyPost_ret (res_B rfl _ _ _ _ _ rfl hr9 (tree_len _ _)) rfl ⟨rfl, below_setRow (KEEP.out _ hbx).2.2 (Nat.le_refl _) _⟩
end
section
set_option maxRecDepth 100000
open Go.RowKit

set_option maxRecDepth 100000 in
set_option maxHeartbeats 3200000 in
theorem rpathof_all (f : Nat) : ∀ (L : List (List UInt8)) (i : Nat) (A : Option Addr) (cap : Nat) (w : World), L.length ≤ f → f ≤ 1099511627776 → i < L.length → DL w (· < w.heap.size) L A cap →
    Calls Tryd.prog 73 #[.slice A L.length cap, .int .i64 i] w fun e w' => ∃ v, e = .returned v ∧ OwnD w' w.heap.size v (pth f L i) ∧ Below w.heap.size w w' := by
  induction f with
  | zero => intro L i A cap w h1 _ h2; omega
  | succ f ih =>
    intro L i A cap w hfu hf2 hi hl
    by_cases h1 : L.length = 1
    · have HP := Lib.hid (show pth (f + 1) L i = [] by rw [pth, if_pos (by omega)])
      rw [h1]
      clear hl ih h1
      go_enter Tryd.func73, Tryd.ntmps73
      go_wp2_with fail
      go_ret
      exact ⟨_, rfl, by rw [HP.out]; exact nilD w, (Below.refl _ _).alloc (Nat.le_refl _) _⟩
    have HL := Lib.hid hl
    have hcap := hl.1
    have hcm : cap ≤ 9223372036854775807 := hl.2.1
    have KEEP := Lib.hid (show ∀ ww, Below w.heap.size w ww → DL ww (· < ww.heap.size) L A cap from fun ww h => by
      have := h.size
      exact hl.keep fun i hi => ⟨by omega, h.block i hi⟩)
    have STEP := Lib.hid (show ∀ ww w', Below w.heap.size w ww → Below ww.heap.size ww w' → Below w.heap.size w w' from fun ww w' h1 h2 => h1.trans (h2.mono h1.size))
    obtain ⟨k, _, _, hk1, hk2, hk3⟩ := hf_spec L.length (by omega) (by omega)
    obtain ⟨K, hK⟩ : ∃ K, K = hf L.length := ⟨_, rfl⟩
    have C := Lib.hid (half_all L.length w (by omega) (by omega))
    have HP1 := Lib.hid (show i < K → pth (f + 1) L i = pth f (L.take K) i ++ [tree f (L.drop K)] from fun h => by rw [pth, if_neg (by omega), ← hK, if_pos h])
    have HP2 := Lib.hid (show ¬ i < K → pth (f + 1) L i = pth f (L.drop K) (i - K) ++ [tree f (L.take K)] from fun h => by rw [pth, if_neg (by omega), ← hK, if_neg h])
    rw [← hK] at hk1 hk2 hk3 C
    obtain ⟨b, o, rfl, hS, _⟩ := hl.2.2.2.2 (by omega)
    have hlk : (L.take K).length = K := by rw [List.length_take]; omega
    have hld : (L.drop K).length = L.length - K := by rw [List.length_drop]
    have ta := Lib.hid (show ∀ ww, Below w.heap.size w ww → Calls Tryd.prog 34 #[.slice (some ⟨b, o, none⟩) K cap] ww fun e w' => e = .returned (.agg (U (tree f (L.take K))).toArray) ∧ Below ww.heap.size ww w' from fun ww h => by
      have := rtree_all f (L.take K) (some ⟨b, o, none⟩) cap ww (by omega) (by omega) ((KEEP.out ww h).take K)
      rwa [hlk] at this)
    have tb := Lib.hid (show ∀ ww, Below w.heap.size w ww → Calls Tryd.prog 34 #[.slice (some ⟨b, o + K * 32, none⟩) (L.length - K) (cap - K)] ww fun e w' => e = .returned (.agg (U (tree f (L.drop K))).toArray) ∧ Below ww.heap.size ww w' from fun ww h => by
      have := rtree_all f (L.drop K) (some ⟨b, o + K * 32, none⟩) (cap - K) ww (by omega) (by omega) ((KEEP.out ww h).drop K)
      rwa [hld] at this)
    have pa := Lib.hid (show i < K → ∀ ww, Below w.heap.size w ww → Calls Tryd.prog 73 #[.slice (some ⟨b, o, none⟩) K cap, .int .i64 i] ww fun e w' => ∃ A' c', e = .returned (.slice A' (pth f (L.take K) i).length c') ∧ OwnD w' w.heap.size (.slice A' (pth f (L.take K) i).length c') (pth f (L.take K) i) ∧ Below ww.heap.size ww w' from fun hik ww h => by
      have := ih (L.take K) i (some ⟨b, o, none⟩) cap ww (by omega) (by omega) (by omega) ((KEEP.out ww h).take K)
      rw [hlk] at this
      refine this.mono fun e w' ⟨v, he, ho, hb⟩ => ?_
      obtain ⟨A', c', rfl⟩ := ho.slice
      exact ⟨A', c', he, ho.low h.size, hb⟩)
    have pb := Lib.hid (show ¬ i < K → ∀ ww, Below w.heap.size w ww → Calls Tryd.prog 73 #[.slice (some ⟨b, o + K * 32, none⟩) (L.length - K) (cap - K), .int .i64 ((i : Int) - K)] ww fun e w' => ∃ A' c', e = .returned (.slice A' (pth f (L.drop K) (i - K)).length c') ∧ OwnD w' w.heap.size (.slice A' (pth f (L.drop K) (i - K)).length c') (pth f (L.drop K) (i - K)) ∧ Below ww.heap.size ww w' from fun hik ww h => by
      have := ih (L.drop K) (i - K) (some ⟨b, o + K * 32, none⟩) (cap - K) ww (by omega) (by omega) (by omega) ((KEEP.out ww h).drop K)
      rw [hld, show ((i - K : Nat) : Int) = (i : Int) - K by omega] at this
      refine this.mono fun e w' ⟨v, he, ho, hb⟩ => ?_
      obtain ⟨A', c', rfl⟩ := ho.slice
      exact ⟨A', c', he, ho.low h.size, hb⟩)
    have HB1 := Lib.hid (fold32 (tree f (L.drop K)) (tree_len _ _))
    have HB2 := Lib.hid (fold32 (tree f (L.take K)) (tree_len _ _))
    have pl1 := stp_le f i K
    have pl2 := stp_le f (i - K) (L.length - K)
    have pn1 := pth_len f (L.take K) i (by omega)
    have pn2 := pth_len f (L.drop K) (i - K) (by omega)
    rw [hlk] at pn1
    rw [hld] at pn2
    have q1 : (pth f (L.take K) i).length ≤ 1099511627775 := by omega
    have q2 : (pth f (L.drop K) (i - K)).length ≤ 1099511627775 := by omega
    have hn : ¬ L.length = 1 := by omega
    clear hK ih hl hlk hld pl1 pl2 pn1 pn2 h1
    go_enter Tryd.func73, Tryd.ntmps73
    go_wp2_with fail
    refine C.out.mono ?_
    rintro e w' ⟨rfl, hw'⟩
    rw [hw']
    clear hw' w'
    have hbx : Below w.heap.size w w.drew := (Below.refl _ _).drew
    have b1 : K ≤ cap := by omega
    have b2 : K ≤ L.length := by omega
    have b3 : K < cap := by omega
    have b4 : (K : Int) ≤ cap := by omega
    have b5 : (K : Int) ≤ L.length := by omega
    have b6 : ¬ cap = K := by omega
    by_cases hik : i < K
    · go_wp2_with fail
      obtain ⟨hbs, hfo⟩ := HB1.out
      have PA := Lib.hid (pa.out hik)
      clear pa pb C
      go_region_law
        (first
          | (refine step_app_dig rfl (.tmp 20) (.tmp 25) rfl w.heap.size w6.heap.size _ (pth f (L.take K) i) (tree f (L.drop K)) rfl rfl (HO6.out.alloc _) (heap_alloc_new w6 _) (tree_len _ _) (by omega) (by simp; omega) ?_; intro v7 w7 ho7 hg7; obtain ⟨A7, c7, rfl⟩ := ho7.slice; have HO7 := Lib.hid ho7; have HB7 := Lib.hid (below_ownD (HB6.out.alloc HB6.out.size _) hg7 (HO6.out.alloc _) (Nat.le_refl _) (by simp; omega)); clear ho7 hg7)
          | (go_simp; go_at_call 73; (with_reducible refine (PA.out _ hbx).mono ?_); rintro e w5 ⟨A5, c5, rfl, ho5, hb5⟩; have hby := STEP.out _ _ hbx hb5; clear hbx hb5; have HO5 := Lib.hid ho5; have hbx := hby; clear hby ho5)
          | (go_simp; go_at_call 34; (with_reducible refine (tb.out _ hbx).mono ?_); rintro e w6 ⟨rfl, hb6⟩; have hby := STEP.out _ _ hbx hb6; have HO6 := Lib.hid (HO5.out.step hb6); have HB6 := Lib.hid hby; have hz6 := hby.size; clear hbx hb6; have hbx := hby; clear hby))
      go_wp2_with fail
      go_ret
      exact ⟨.slice A7 ((pth f (L.take K) i).length + 1) c7, rfl, by rw [HP1.out hik]; have h := HO7.out; rw [List.length_append] at h; exact h, HB7.out⟩
    · have hwr : IntKind.i64.wrap ((i : Int) - K) = (i : Int) - K := IntWalk.i64_in _ (by omega)
      go_wp2_with fail
      obtain ⟨hbs, hfo⟩ := HB2.out
      have PB := Lib.hid (pb.out hik)
      clear pa pb C
      go_region_law
        (first
          | (refine step_app_dig rfl (.tmp 33) (.tmp 38) rfl w.heap.size w6.heap.size _ (pth f (L.drop K) (i - K)) (tree f (L.take K)) rfl rfl (HO6.out.alloc _) (heap_alloc_new w6 _) (tree_len _ _) (by omega) (by simp; omega) ?_; intro v7 w7 ho7 hg7; obtain ⟨A7, c7, rfl⟩ := ho7.slice; have HO7 := Lib.hid ho7; have HB7 := Lib.hid (below_ownD (HB6.out.alloc HB6.out.size _) hg7 (HO6.out.alloc _) (Nat.le_refl _) (by simp; omega)); clear ho7 hg7)
          | (go_simp; go_at_call 73; (with_reducible refine (PB.out _ hbx).mono ?_); rintro e w5 ⟨A5, c5, rfl, ho5, hb5⟩; have hby := STEP.out _ _ hbx hb5; clear hbx hb5; have HO5 := Lib.hid ho5; have hbx := hby; clear hby ho5)
          | (go_simp; go_at_call 34; (with_reducible refine (ta.out _ hbx).mono ?_); rintro e w6 ⟨rfl, hb6⟩; have hby := STEP.out _ _ hbx hb6; have HO6 := Lib.hid (HO5.out.step hb6); have HB6 := Lib.hid hby; have hz6 := hby.size; clear hbx hb6; have hbx := hby; clear hby))
      go_wp2_with fail
      go_ret
      exact ⟨.slice A7 ((pth f (L.drop K) (i - K)).length + 1) c7, rfl, by rw [HP2.out hik]; have h := HO7.out; rw [List.length_append] at h; exact h, HB7.out⟩
set_option maxHeartbeats 1600000 in
theorem rpath_no (L : List (List UInt8)) (i : Int) (A : Option Addr) (cap : Nat) (w : World) (hi : i < 0 ∨ (L.length : Int) ≤ i) (hm : L.length ≤ 1099511627776) :
    Calls Tryd.prog 39 #[.slice A L.length cap, .int .i64 i] w fun e w' => e = .returned (.tuple #[.slice none 0 0, .int .i64 1]) ∧ w' = w := by
  rcases hi with hi | hi
  · go_enter Tryd.func39, Tryd.ntmps39
    go_wp2_with fail
    exact bodyPost_ret (v := .tuple #[.slice none 0 0, .int .i64 1]) (by simp [results, Tryd.results39]) rfl ⟨rfl, rfl⟩
  · have h0 : ¬ i < 0 := by omega
    go_enter Tryd.func39, Tryd.ntmps39
    go_wp2_with fail
    exact bodyPost_ret (v := .tuple #[.slice none 0 0, .int .i64 1]) (by simp [results, Tryd.results39]) rfl ⟨rfl, rfl⟩

set_option maxHeartbeats 1600000 in
theorem rpath_yes (f : Nat) (L : List (List UInt8)) (i : Nat) (A : Option Addr) (cap : Nat) (w : World) (hf : L.length ≤ f) (hf2 : f ≤ 1099511627776) (hi : i < L.length) (hl : DL w (· < w.heap.size) L A cap) :
    Calls Tryd.prog 39 #[.slice A L.length cap, .int .i64 i] w fun e w' => ∃ A' c', e = .returned (.tuple #[.slice A' (pth f L i).length c', .int .i64 0]) ∧ OwnD w' w.heap.size (.slice A' (pth f L i).length c') (pth f L i) ∧ Below w.heap.size w w' := by
  have C := Lib.hid (rpathof_all f L i A cap w hf hf2 hi hl)
  have hi2 : (i : Int) < L.length := by omega
  clear hl
  go_enter Tryd.func39, Tryd.ntmps39
  go_wp2_with fail
  refine C.out.mono ?_
  rintro e w2 ⟨v, rfl, ho, hb⟩
  obtain ⟨A', c', rfl⟩ := ho.slice
  have HO := Lib.hid ho
  have HB := Lib.hid hb
  clear ho hb C
  go_wp2_with fail
  exact bodyPost_ret (v := .tuple #[.slice A' (pth f L i).length c', .int .i64 0]) (by simp [results, Tryd.results39]) rfl ⟨A', c', rfl, HO.out, HB.out⟩


set_option maxRecDepth 100000 in
set_option maxHeartbeats 3200000 in
theorem rsame_all (P : List (List UInt8)) (A : Option Addr) (c : Nat) (B : Option Addr) (d : Nat) (w : World) (hp : DL w (· < w.heap.size) P A c) (hq : DL w (· < w.heap.size) P B d) (hn : P.length ≤ 1099511627776) :
    Calls Tryd.prog 45 #[.slice A P.length c, .slice B P.length d] w fun e w' => e = .returned (.bool true) ∧ Below w.heap.size w w' := by
  have HP := Lib.hid hp
  have HQ := Lib.hid hq
  have hc1 := hp.1
  have hc2 := hq.1
  clear hp hq
  go_enter Tryd.func45, Tryd.ntmps45
  go_wp2_with fail
  go_loopw [5] (fun x wr => ∃ k : Nat, k ≤ P.length ∧ x = .int .i64 k ∧ Below w.heap.size w wr) (fun x _ => P.length - (intOf x).toNat)
  case atStart => exact ⟨0, Nat.zero_le _, rfl, Below.refl _ _⟩
  case round =>
    obtain ⟨k, hk, rfl, hb⟩ := hrel
    have HB := Lib.hid hb
    have hz := hb.size
    clear hb
    by_cases hlt : k < P.length
    · obtain ⟨b1, o1, rfl, hS1, hr1⟩ := HP.out.2.2.2.2 (by omega)
      obtain ⟨b2, o2, rfl, hS2, hr2⟩ := HQ.out.2.2.2.2 (by omega)
      obtain ⟨x, hx⟩ : ∃ x, P[k]? = some x := ⟨_, List.getElem?_eq_getElem hlt⟩
      have R1 := Lib.hid (show ∀ ww, Below w.heap.size w ww → ww.rangeAt b1 (o1 + k * 32) (U x) from fun ww h j u hu => (World.cell?_of_block (h.block b1 hS1)).trans (hr1 k x hx j u hu))
      have R2 := Lib.hid (show ∀ ww, Below w.heap.size w ww → ww.rangeAt b2 (o2 + k * 32) (U x) from fun ww h j u hu => (World.cell?_of_block (h.block b2 hS2)).trans (hr2 k x hx j u hu))
      have HX := Lib.hid (HP.out.2.2.2.1 x (List.mem_of_getElem? hx))
      clear hr1 hr2 hx
      go_wp2_with fail
      refine wp_region_noPanic ?_
      have h0 := HB.out.drew
      refine wp_region_held_drew (S := fun ww => Below w.heap.size w ww) (by kernel_rfl) h0 (fun _ => ?_)
      refine tk_move 0 17 (.tmp 0) (.slice (some ⟨b1, o1, none⟩) P.length c) rfl (by kernel_rfl) (by kernel_rfl) (by kernel_rfl) (fun _ _ _ _ h => h) rfl rfl rfl rfl h0 ?_
      simp only [Act.put, List.setIfInBounds_toArray, List.set_cons_zero, List.set_cons_succ]
      refine tk_move 1 18 (.tmp 5) (.int .i64 k) rfl (by kernel_rfl) (by kernel_rfl) (by kernel_rfl) (fun _ _ _ _ h => h) rfl rfl rfl rfl h0 ?_
      simp only [Act.put, List.setIfInBounds_toArray, List.set_cons_zero, List.set_cons_succ]
      refine tk_val 2 19 (.pointer (some ⟨b1, o1 + k * 32, none⟩)) rfl (by kernel_rfl) (by kernel_rfl) (by kernel_rfl) (fun _ _ _ _ h => h) rfl rfl (fun w _ => ev_index (.tmp 17) (.tmp 18) b1 o1 P.length c k rfl rfl rfl hlt) h0 ?_
      simp only [Act.put, List.setIfInBounds_toArray, List.set_cons_zero, List.set_cons_succ]
      refine tk_load 3 20 (.tmp 19) b1 (o1 + k * 32) x rfl (by kernel_rfl) (by kernel_rfl) (by kernel_rfl) (fun _ _ _ _ h => h) rfl rfl rfl rfl (fun w h => R1.out w h) HX.out h0 ?_
      simp only [Act.put, List.setIfInBounds_toArray, List.set_cons_zero, List.set_cons_succ]
      refine tk_move 4 21 (.tmp 1) (.slice (some ⟨b2, o2, none⟩) P.length d) rfl (by kernel_rfl) (by kernel_rfl) (by kernel_rfl) (fun _ _ _ _ h => h) rfl rfl rfl rfl h0 ?_
      simp only [Act.put, List.setIfInBounds_toArray, List.set_cons_zero, List.set_cons_succ]
      refine tk_move 5 22 (.tmp 5) (.int .i64 k) rfl (by kernel_rfl) (by kernel_rfl) (by kernel_rfl) (fun _ _ _ _ h => h) rfl rfl rfl rfl h0 ?_
      simp only [Act.put, List.setIfInBounds_toArray, List.set_cons_zero, List.set_cons_succ]
      refine tk_val 6 23 (.pointer (some ⟨b2, o2 + k * 32, none⟩)) rfl (by kernel_rfl) (by kernel_rfl) (by kernel_rfl) (fun _ _ _ _ h => h) rfl rfl (fun w _ => ev_index (.tmp 21) (.tmp 22) b2 o2 P.length d k rfl rfl rfl hlt) h0 ?_
      simp only [Act.put, List.setIfInBounds_toArray, List.set_cons_zero, List.set_cons_succ]
      refine tk_load 7 24 (.tmp 23) b2 (o2 + k * 32) x rfl (by kernel_rfl) (by kernel_rfl) (by kernel_rfl) (fun _ _ _ _ h => h) rfl rfl rfl rfl (fun w h => R2.out w h) HX.out h0 ?_
      simp only [Act.put, List.setIfInBounds_toArray, List.set_cons_zero, List.set_cons_succ]
      refine tk_val 8 25 (.bool false) rfl (by kernel_rfl) (by kernel_rfl) (by kernel_rfl) (fun _ _ _ _ h => h) rfl rfl (fun w _ => ev_neq (.tmp 20) (.tmp 24) x HX.out rfl rfl rfl) h0 ?_
      simp only [Act.put, List.setIfInBounds_toArray, List.set_cons_zero, List.set_cons_succ]
      refine wpAnyH_done (by kernel_rfl) (NoPanic.normal ?_) _
      have H0 := Lib.hid h0
      clear h0
      go_wp2_with fail
      go_roundw
      case rel => exact ⟨k + 1, by omega, by go_num, H0.out⟩
      case measure => simp [intOf]; omega
    · go_wp2_with fail
      go_ret
      exact ⟨rfl, HB.out⟩
end
end Go.Proofs.YteicbdjennjcdaaDoor
