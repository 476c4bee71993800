/- Digest: the reference's half, length and Tree. -/
import Derived.Test.YtgojodldnodjpaaDoorKA
import Derived.Test.YtgojodldnodjpaaDoorJJ
import Derived.Test.YtgojodldnodjpaaDoorJS
namespace Go.Proofs.YtgojodldnodjpaaDoor
open Go.RowKit

set_option maxHeartbeats 800000 in
theorem half_all (n : Nat) (w : World) (h1 : 2 ≤ n) (h2 : n ≤ 2199023255552) :
    Calls Tryd.prog 37 #[.int .i64 n] w fun e w' => e = .returned (.int .i64 (hf n)) ∧ w' = w := by
  obtain ⟨K, hK⟩ : ∃ K, K = hf n := ⟨_, rfl⟩
  have HPOW := Lib.hid (show ∀ t : Nat, 2 ^ t < n → n ≤ 2 * 2 ^ t → 2 ^ t = K from fun t a b => by rw [hK]; exact hf_of_pow (by omega) (by omega) a b)
  rw [← hK]
  clear hK
  go_enter Tryd.func37, Tryd.ntmps37
  go_wp2_with fail
  go_loop [3] (fun x => ∃ t : Nat, x = .int .i64 (2 ^ t : Nat) ∧ 2 ^ t < n) (fun x => n - (intOf x).toNat)
  case atStart => exact ⟨0, rfl, by omega⟩
  case round =>
    obtain ⟨t, rfl, ht⟩ := hrel
    have HP1 := Lib.hid (HPOW.out t ht)
    have HT := Lib.hid (show 2 * 2 ^ t = 2 ^ (t + 1) by rw [Nat.pow_succ]; omega)
    have hpos : 0 < 2 ^ t := Nat.pos_of_ne_zero (by simp)
    obtain ⟨x, hx⟩ : ∃ x, x = 2 ^ t := ⟨_, rfl⟩
    rw [← hx] at ht hpos HP1 HT ⊢
    clear hx
    by_cases h2x : 2 * x < n
    · clear HP1
      go_wp2_with fail
      go_round
      case rel => exact ⟨t + 1, by rw [← HT.out]; go_num, by rw [← HT.out]; omega⟩
      case measure => simp [intOf]; omega
    · have HE := Lib.hid (HP1.out (by omega))
      clear HP1
      go_wp2_with fail
      go_ret
      exact ⟨ret_int (by rw [HE.out]), rfl⟩

set_option maxHeartbeats 800000 in
theorem rlength_all (f : Nat) : ∀ (i n : Nat) (w : World), i < n → n ≤ f → f ≤ 2199023255552 →
    Calls Tryd.prog 43 #[.int .i64 i, .int .i64 n] w fun e w' => e = .returned (.int .i64 (stp f i n)) ∧ w' = w := by
  induction f with
  | zero => intro i n w h1 h2; omega
  | succ f ih =>
    intro i n w h1 h2 h3
    have hs := stp_le f
    by_cases hn : n = 1
    · subst hn
      have HS := Lib.hid (show stp (f + 1) i 1 = 0 by rw [stp, if_pos (by omega)])
      go_enter Tryd.func43, Tryd.ntmps43
      go_wp2_with fail
      go_ret
      exact ⟨ret_int (by rw [HS.out]; rfl), rfl⟩
    · obtain ⟨k, _, _, hk1, hk2, hk3⟩ := hf_spec n (by omega) (by omega)
      obtain ⟨K, hK⟩ : ∃ K, K = hf n := ⟨_, rfl⟩
      have C := Lib.hid (half_all n w (by omega) (by omega))
      rw [← hK] at hk1 hk2 hk3 C
      by_cases hi : i < K
      · have HS := Lib.hid (show stp (f + 1) i n = 1 + stp f i K by rw [stp, if_neg (by omega), ← hK, if_pos hi])
        have C2 := Lib.hid (ih i K w hi (by omega) (by omega))
        have hb := hs i K
        clear hK ih hs
        go_enter Tryd.func43, Tryd.ntmps43
        go_wp2_with fail
        refine C.out.mono ?_
        rintro e w' ⟨rfl, rfl⟩
        go_wp2_with fail
        refine C2.out.mono ?_
        rintro e w' ⟨rfl, rfl⟩
        go_wp2_with fail
        go_ret
        exact ⟨ret_int (by rw [HS.out]; omega), rfl⟩
      · have HS := Lib.hid (show stp (f + 1) i n = 1 + stp f (i - K) (n - K) by rw [stp, if_neg (by omega), ← hK, if_neg hi])
        have C2 := Lib.hid (ih (i - K) (n - K) w (by omega) (by omega) (by omega))
        have hb := hs (i - K) (n - K)
        have e1 : ((i - K : Nat) : Int) = (i : Int) - K := by omega
        have e2 : ((n - K : Nat) : Int) = (n : Int) - K := by omega
        rw [e1, e2] at C2
        clear hK ih hs e1 e2
        go_enter Tryd.func43, Tryd.ntmps43
        go_wp2_with fail
        refine C.out.mono ?_
        rintro e w' ⟨rfl, rfl⟩
        go_wp2_with fail
        refine C2.out.mono ?_
        rintro e w' ⟨rfl, rfl⟩
        go_wp2_with fail
        go_ret
        exact ⟨ret_int (by rw [HS.out]; omega), rfl⟩

set_option maxRecDepth 100000 in
set_option maxHeartbeats 1600000 in
theorem rtree_nil (A : Option Addr) (cap : Nat) (w : World) :
    Calls Tryd.prog 18 #[.slice A 0 cap] w fun e w' => e = .returned (.agg (U emptyd).toArray) ∧ Below w.heap.size w w' := by
  obtain ⟨W1, hW1⟩ : ∃ W1, w.alloc (.cells (U (flb 32 [])).toArray 26) = W1 := ⟨_, rfl⟩
  obtain ⟨hr0, hb1, hz1⟩ := box1 w (U (flb 32 [])).toArray 26 W1 hW1
  have C := Lib.hid (rtagged_all emptyT [] none 0 W1 (by decide) (by simp) (byt_nil _ _))
  have HR0 := Lib.hid hr0
  have HB1 := Lib.hid hb1
  have HW1 := Lib.hid hW1
  clear hr0 hb1 hW1
  go_enter Tryd.func18, Tryd.ntmps18
  go_wp2_with fail
  generalize hW1' : w.alloc _ = W1'
  have e9 : W1' = W1 := hW1'.symm.trans HW1.out
  clear hW1'
  rw [e9]
  clear e9 W1'
  refine C.out.mono ?_
  rintro e w2 ⟨rfl, hb2⟩
  have hd2 : RowB w2 w.heap.size 26 (flb 32 []) := (hb2.block _ (by omega)).trans HR0.out
  have hr2 := hd2.setRow emptyd
  have HB2 := Lib.hid (HB1.out.trans (hb2.mono (by omega)))
  clear C hb2
  go_wp2_with (refine store_B rfl (.tmp 2) (.tmp 7) rfl w.heap.size (flb 32 []) emptyd rfl rfl 26 hd2 (tagd_len _ _) (by simp [flb]) ?_)
  exact bodyPost_ret (res_B rfl _ _ _ _ _ rfl hr2 (tagd_len _ _)) rfl ⟨rfl, below_setRow HB2.out (Nat.le_refl _) _⟩

set_option maxRecDepth 100000 in
set_option maxHeartbeats 3200000 in
theorem rtree_all (f : Nat) : ∀ (L : List (List UInt8)) (A : Option Addr) (cap : Nat) (w : World), L.length ≤ f → f ≤ 2199023255552 → DL w (· < w.heap.size) L A cap →
    Calls Tryd.prog 18 #[.slice A L.length cap] w fun e w' => e = .returned (.agg (U (tree f L)).toArray) ∧ Below w.heap.size w w' := by
  induction f with
  | zero =>
    intro L A cap w hfu _ hl
    obtain rfl : L = [] := List.eq_nil_of_length_eq_zero (by omega)
    exact rtree_nil A cap w
  | succ f ih =>
    intro L A cap w hfu hf2 hl
    by_cases h0 : L = []
    · subst h0
      exact rtree_nil A cap w
    have HL := Lib.hid hl
    obtain ⟨W1, hW1⟩ : ∃ W1, w.alloc (.cells (U (flb 32 [])).toArray 26) = W1 := ⟨_, rfl⟩
    obtain ⟨hr0, hb1, hz1⟩ := box1 w (U (flb 32 [])).toArray 26 W1 hW1
    have HR0 := Lib.hid (show RowB W1 w.heap.size 26 (flb 32 []) from hr0)
    have HB1 := Lib.hid hb1
    have HZ1 := Lib.hid hz1
    have hcap := hl.1
    have hcm := hl.2.1
    -- what stays
    have hkeep : ∀ ww, Below W1.heap.size W1 ww → DL ww (· < ww.heap.size) L A cap ∧ RowB ww w.heap.size 26 (flb 32 []) ∧ Below w.heap.size w ww := fun ww h => by
      have hw : Below w.heap.size w ww := hb1.trans (h.mono (by omega))
      have := hw.size
      exact ⟨hl.keep fun i hi => ⟨by omega, hw.block i hi⟩, hr0 |> fun x => (h.block _ (by omega)).trans x, hw⟩
    have KEEP := Lib.hid hkeep
    have HW1 := Lib.hid hW1
    clear hl hr0 hb1 hz1 hkeep hW1
    focus
      by_cases h1 : L.length = 1
      · obtain ⟨d, rfl⟩ := List.length_eq_one_iff.1 h1
        have hd := HL.out.2.2.2.1 d (List.mem_singleton_self d)
        obtain ⟨b, o, rfl, hS, _⟩ := HL.out.2.2.2.2 (by simp)
        obtain ⟨hl1, _, _⟩ := KEEP.out W1 (Below.refl _ _)
        obtain ⟨b', o', e, hSS, hc⟩ := hl1.2.2.2.2 (by simp)
        injection e with e
        injection e with e1 e2
        subst e1 e2
        have hd0 := hc 0 d rfl
        rw [Nat.zero_mul, Nat.add_zero] at hd0
        have C := Lib.hid (show Calls Tryd.prog 15 #[.string leafT, .slice (some ⟨b, o, none⟩) 32 32] W1 fun e w' => e = .returned (.agg (U (leafd d)).toArray) ∧ Below W1.heap.size W1 w' from by
          have := rtagged_all leafT d (some ⟨b, o, none⟩) 32 W1 (by decide) (by omega) ⟨by omega, max32, (fun e => by cases e), fun _ => ⟨b, o, rfl, hSS, hd0⟩⟩
          rwa [hd] at this)
        rw [← HW1.out] at C
        clear hl1 hc hd0 h0 h1 hS hSS
        go_enter Tryd.func18, Tryd.ntmps18
        go_wp2_with fail
        refine C.out.mono ?_
        rintro e w2 ⟨rfl, hb2⟩
        rw [HW1.out] at hb2
        obtain ⟨_, hd2, hbw⟩ := KEEP.out w2 hb2
        have HBW := Lib.hid hbw
        have hr2 := hd2.setRow (leafd d)
        clear C hb2 hbw
        go_wp2_with (refine store_B rfl (.tmp 2) (.tmp 14) rfl w.heap.size (flb 32 []) (leafd d) rfl rfl 26 hd2 (tagd_len _ _) (by simp [flb]) ?_)
        exact bodyPost_ret (res_B rfl _ _ _ _ _ rfl hr2 (tagd_len _ _)) rfl ⟨rfl, below_setRow HBW.out (Nat.le_refl _) _⟩
      · obtain ⟨k, _, _, hk1, hk2, hk3⟩ := hf_spec L.length (by have := List.length_pos_iff.2 h0; omega) (by omega)
        obtain ⟨K, hK⟩ : ∃ K, K = hf L.length := ⟨_, rfl⟩
        have C := Lib.hid (half_all L.length W1 (by omega) (by omega))
        have HT := Lib.hid (show tree (f + 1) L = noded (tree f (L.take K)) (tree f (L.drop K)) by rw [hK]; exact tree_two f L (by omega))
        rw [← hK] at hk1 hk2 hk3 C
        obtain ⟨b, o, rfl, hS, _⟩ := HL.out.2.2.2.2 (by omega)
        have ca : ∀ ww, Below W1.heap.size W1 ww → Calls Tryd.prog 18 #[.slice (some ⟨b, o, none⟩) K cap] ww fun e w' => e = .returned (.agg (U (tree f (L.take K))).toArray) ∧ Below ww.heap.size ww w' := fun ww h => by
          have hlk : (L.take K).length = K := by rw [List.length_take]; omega
          have := ih (L.take K) (some ⟨b, o, none⟩) cap ww (by omega) (by omega) ((KEEP.out ww h).1.take K)
          rwa [hlk] at this
        have cb : ∀ ww, Below W1.heap.size W1 ww → Calls Tryd.prog 18 #[.slice (some ⟨b, o + K * 32, none⟩) (L.length - K) (cap - K)] ww fun e w' => e = .returned (.agg (U (tree f (L.drop K))).toArray) ∧ Below ww.heap.size ww w' := fun ww h => by
          have := ih (L.drop K) (some ⟨b, o + K * 32, none⟩) (cap - K) ww (by rw [List.length_drop]; omega) (by omega) ((KEEP.out ww h).1.drop K)
          rwa [List.length_drop] at this
        have cn : ∀ ww, Below W1.heap.size W1 ww → Calls Tryd.prog 38 #[.agg (U (tree f (L.take K))).toArray, .agg (U (tree f (L.drop K))).toArray] ww fun e w' => e = .returned (.agg (U (tree (f + 1) L)).toArray) ∧ Below ww.heap.size ww w' := fun ww h => by
          rw [HT.out]
          exact rnode_all _ _ ww (tree_len _ _) (tree_len _ _)
        have CA := Lib.hid ca
        have CB := Lib.hid cb
        have CN := Lib.hid cn
        have STEP := Lib.hid (show ∀ ww w', Below W1.heap.size W1 ww → Below ww.heap.size ww w' → Below W1.heap.size W1 w' from fun ww w' h1 h2 => h1.trans (h2.mono h1.size))
        have hn : ¬ L.length = 0 := by omega
        have hul : (U (tree (f + 1) L)).length = 32 := by rw [U_length, tree_len]
        clear hK h0 ca cb cn
        go_enter Tryd.func18, Tryd.ntmps18
        go_wp2_with fail
        generalize hW1' : w.alloc _ = W1'
        have e9 : W1' = W1 := hW1'.symm.trans HW1.out
        clear hW1'
        rw [e9]
        clear e9 W1'
        refine C.out.mono ?_
        rintro e w' ⟨rfl, hw'⟩
        rw [hw']
        clear hw' w'
        go_wp2_with fail
        have hbx : Below W1.heap.size W1 W1.drew := (Below.refl _ _).drew
        have b1 : K ≤ cap := by omega
        have b2 : K ≤ L.length := by omega
        have b3 : K < cap := by omega
        have b4 : (K : Int) ≤ cap := by omega
        have b5 : (K : Int) ≤ L.length := by omega
        have b6 : ¬ cap = K := by omega
        go_region_law
          (first
            | (go_simp; go_at_call 18; (first | (with_reducible refine (CA.out _ hbx).mono ?_) | (with_reducible refine (CB.out _ hbx).mono ?_)); rintro e w5 ⟨rfl, hb'⟩; have hby := STEP.out _ _ hbx hb'; clear hbx hb'; have hbx := hby; clear hby)
            | (go_simp; go_at_call 38; (with_reducible refine (CN.out _ hbx).mono ?_); rintro e w7 ⟨rfl, hb'⟩; have hby := STEP.out _ _ hbx hb'; clear hbx hb'; have hbx := hby; clear hby; obtain ⟨hst1, hst2⟩ := st_row w7 _ _ _ _ (KEEP.out _ hbx).2.1 (by simp [flb]) (tree_len (f + 1) L)))
        have hr9 := (KEEP.out _ hbx).2.1.setRow (tree (f + 1) L)
        clear hst1 hst2
        go_wp2_with fail
        exact bodyPost_ret (res_B rfl _ _ _ _ _ rfl hr9 (tree_len _ _)) rfl ⟨rfl, below_setRow (KEEP.out _ hbx).2.2 (Nat.le_refl _) _⟩
end Go.Proofs.YtgojodldnodjpaaDoor
