/- Digest: the reference's paths; lists compared. -/
import Derived.Test.YtgojodldnodjpaaDoorKD
namespace Go.Proofs.YtgojodldnodjpaaDoor
open Go.RowKit

set_option maxRecDepth 100000 in
set_option maxHeartbeats 3200000 in
theorem rpathof_all (f : Nat) : ∀ (L : List (List UInt8)) (i : Nat) (A : Option Addr) (cap : Nat) (w : World), L.length ≤ f → f ≤ 1099511627776 → i < L.length → DL w (· < w.heap.size) L A cap →
    Calls Tryd.prog 40 #[.slice A L.length cap, .int .i64 i] w fun e w' => ∃ v, e = .returned v ∧ OwnD w' w.heap.size v (pth f L i) ∧ Below w.heap.size w w' := by
  induction f with
  | zero => intro L i A cap w h1 _ h2; omega
  | succ f ih =>
    intro L i A cap w hfu hf2 hi hl
    by_cases h1 : L.length = 1
    · have HP := Lib.hid (show pth (f + 1) L i = [] by rw [pth, if_pos (by omega)])
      rw [h1]
      clear hl ih h1
      go_enter Tryd.func40, Tryd.ntmps40
      go_wp2_with fail
      go_ret
      exact ⟨_, rfl, by rw [HP.out]; exact nilD w, (Below.refl _ _).alloc (Nat.le_refl _) _⟩
    have HL := Lib.hid hl
    have hcap := hl.1
    have hcm : cap ≤ 9223372036854775807 := hl.2.1
    have KEEP := Lib.hid (show ∀ ww, Below w.heap.size w ww → DL ww (· < ww.heap.size) L A cap from fun ww h => by
      have := h.size
      exact hl.keep fun i hi => ⟨by omega, h.block i hi⟩)
    have STEP := Lib.hid (show ∀ ww w', Below w.heap.size w ww → Below ww.heap.size ww w' → Below w.heap.size w w' from fun ww w' h1 h2 => h1.trans (h2.mono h1.size))
    obtain ⟨k, _, _, hk1, hk2, hk3⟩ := hf_spec L.length (by omega) (by omega)
    obtain ⟨K, hK⟩ : ∃ K, K = hf L.length := ⟨_, rfl⟩
    have C := Lib.hid (half_all L.length w (by omega) (by omega))
    have HP1 := Lib.hid (show i < K → pth (f + 1) L i = pth f (L.take K) i ++ [tree f (L.drop K)] from fun h => by rw [pth, if_neg (by omega), ← hK, if_pos h])
    have HP2 := Lib.hid (show ¬ i < K → pth (f + 1) L i = pth f (L.drop K) (i - K) ++ [tree f (L.take K)] from fun h => by rw [pth, if_neg (by omega), ← hK, if_neg h])
    rw [← hK] at hk1 hk2 hk3 C
    obtain ⟨b, o, rfl, hS, _⟩ := hl.2.2.2.2 (by omega)
    have hlk : (L.take K).length = K := by rw [List.length_take]; omega
    have hld : (L.drop K).length = L.length - K := by rw [List.length_drop]
    have ta := Lib.hid (show ∀ ww, Below w.heap.size w ww → Calls Tryd.prog 18 #[.slice (some ⟨b, o, none⟩) K cap] ww fun e w' => e = .returned (.agg (U (tree f (L.take K))).toArray) ∧ Below ww.heap.size ww w' from fun ww h => by
      have := rtree_all f (L.take K) (some ⟨b, o, none⟩) cap ww (by omega) (by omega) ((KEEP.out ww h).take K)
      rwa [hlk] at this)
    have tb := Lib.hid (show ∀ ww, Below w.heap.size w ww → Calls Tryd.prog 18 #[.slice (some ⟨b, o + K * 32, none⟩) (L.length - K) (cap - K)] ww fun e w' => e = .returned (.agg (U (tree f (L.drop K))).toArray) ∧ Below ww.heap.size ww w' from fun ww h => by
      have := rtree_all f (L.drop K) (some ⟨b, o + K * 32, none⟩) (cap - K) ww (by omega) (by omega) ((KEEP.out ww h).drop K)
      rwa [hld] at this)
    have pa := Lib.hid (show i < K → ∀ ww, Below w.heap.size w ww → Calls Tryd.prog 40 #[.slice (some ⟨b, o, none⟩) K cap, .int .i64 i] ww fun e w' => ∃ A' c', e = .returned (.slice A' (pth f (L.take K) i).length c') ∧ OwnD w' w.heap.size (.slice A' (pth f (L.take K) i).length c') (pth f (L.take K) i) ∧ Below ww.heap.size ww w' from fun hik ww h => by
      have := ih (L.take K) i (some ⟨b, o, none⟩) cap ww (by omega) (by omega) (by omega) ((KEEP.out ww h).take K)
      rw [hlk] at this
      refine this.mono fun e w' ⟨v, he, ho, hb⟩ => ?_
      obtain ⟨A', c', rfl⟩ := ho.slice
      exact ⟨A', c', he, ho.low h.size, hb⟩)
    have pb := Lib.hid (show ¬ i < K → ∀ ww, Below w.heap.size w ww → Calls Tryd.prog 40 #[.slice (some ⟨b, o + K * 32, none⟩) (L.length - K) (cap - K), .int .i64 ((i : Int) - K)] ww fun e w' => ∃ A' c', e = .returned (.slice A' (pth f (L.drop K) (i - K)).length c') ∧ OwnD w' w.heap.size (.slice A' (pth f (L.drop K) (i - K)).length c') (pth f (L.drop K) (i - K)) ∧ Below ww.heap.size ww w' from fun hik ww h => by
      have := ih (L.drop K) (i - K) (some ⟨b, o + K * 32, none⟩) (cap - K) ww (by omega) (by omega) (by omega) ((KEEP.out ww h).drop K)
      rw [hld, show ((i - K : Nat) : Int) = (i : Int) - K by omega] at this
      refine this.mono fun e w' ⟨v, he, ho, hb⟩ => ?_
      obtain ⟨A', c', rfl⟩ := ho.slice
      exact ⟨A', c', he, ho.low h.size, hb⟩)
    have HB1 := Lib.hid (fold32 (tree f (L.drop K)) (tree_len _ _))
    have HB2 := Lib.hid (fold32 (tree f (L.take K)) (tree_len _ _))
    have pl1 := stp_le f i K
    have pl2 := stp_le f (i - K) (L.length - K)
    have pn1 := pth_len f (L.take K) i (by omega)
    have pn2 := pth_len f (L.drop K) (i - K) (by omega)
    rw [hlk] at pn1
    rw [hld] at pn2
    have q1 : (pth f (L.take K) i).length ≤ 1099511627775 := by omega
    have q2 : (pth f (L.drop K) (i - K)).length ≤ 1099511627775 := by omega
    have hn : ¬ L.length = 1 := by omega
    clear hK ih hl hlk hld pl1 pl2 pn1 pn2 h1
    go_enter Tryd.func40, Tryd.ntmps40
    go_wp2_with fail
    refine C.out.mono ?_
    rintro e w' ⟨rfl, hw'⟩
    rw [hw']
    clear hw' w'
    have hbx : Below w.heap.size w w.drew := (Below.refl _ _).drew
    have b1 : K ≤ cap := by omega
    have b2 : K ≤ L.length := by omega
    have b3 : K < cap := by omega
    have b4 : (K : Int) ≤ cap := by omega
    have b5 : (K : Int) ≤ L.length := by omega
    have b6 : ¬ cap = K := by omega
    by_cases hik : i < K
    · go_wp2_with fail
      obtain ⟨hbs, hfo⟩ := HB1.out
      have PA := Lib.hid (pa.out hik)
      clear pa pb C
      go_region_law
        (first
          | (refine step_app_dig rfl (.tmp 20) (.tmp 25) rfl w.heap.size w6.heap.size _ (pth f (L.take K) i) (tree f (L.drop K)) rfl rfl (HO6.out.alloc _) (heap_alloc_new w6 _) (tree_len _ _) (by omega) (by simp; omega) ?_; intro v7 w7 ho7 hg7; obtain ⟨A7, c7, rfl⟩ := ho7.slice; have HO7 := Lib.hid ho7; have HB7 := Lib.hid (below_ownD (HB6.out.alloc HB6.out.size _) hg7 (HO6.out.alloc _) (Nat.le_refl _) (by simp; omega)); clear ho7 hg7)
          | (go_simp; go_at_call 40; (with_reducible refine (PA.out _ hbx).mono ?_); rintro e w5 ⟨A5, c5, rfl, ho5, hb5⟩; have hby := STEP.out _ _ hbx hb5; clear hbx hb5; have HO5 := Lib.hid ho5; have hbx := hby; clear hby ho5)
          | (go_simp; go_at_call 18; (with_reducible refine (tb.out _ hbx).mono ?_); rintro e w6 ⟨rfl, hb6⟩; have hby := STEP.out _ _ hbx hb6; have HO6 := Lib.hid (HO5.out.step hb6); have HB6 := Lib.hid hby; have hz6 := hby.size; clear hbx hb6; have hbx := hby; clear hby))
      go_wp2_with fail
      go_ret
      exact ⟨.slice A7 ((pth f (L.take K) i).length + 1) c7, rfl, by rw [HP1.out hik]; have h := HO7.out; rw [List.length_append] at h; exact h, HB7.out⟩
    · have hwr : IntKind.i64.wrap ((i : Int) - K) = (i : Int) - K := IntWalk.i64_in _ (by omega)
      go_wp2_with fail
      obtain ⟨hbs, hfo⟩ := HB2.out
      have PB := Lib.hid (pb.out hik)
      clear pa pb C
      go_region_law
        (first
          | (refine step_app_dig rfl (.tmp 33) (.tmp 38) rfl w.heap.size w6.heap.size _ (pth f (L.drop K) (i - K)) (tree f (L.take K)) rfl rfl (HO6.out.alloc _) (heap_alloc_new w6 _) (tree_len _ _) (by omega) (by simp; omega) ?_; intro v7 w7 ho7 hg7; obtain ⟨A7, c7, rfl⟩ := ho7.slice; have HO7 := Lib.hid ho7; have HB7 := Lib.hid (below_ownD (HB6.out.alloc HB6.out.size _) hg7 (HO6.out.alloc _) (Nat.le_refl _) (by simp; omega)); clear ho7 hg7)
          | (go_simp; go_at_call 40; (with_reducible refine (PB.out _ hbx).mono ?_); rintro e w5 ⟨A5, c5, rfl, ho5, hb5⟩; have hby := STEP.out _ _ hbx hb5; clear hbx hb5; have HO5 := Lib.hid ho5; have hbx := hby; clear hby ho5)
          | (go_simp; go_at_call 18; (with_reducible refine (ta.out _ hbx).mono ?_); rintro e w6 ⟨rfl, hb6⟩; have hby := STEP.out _ _ hbx hb6; have HO6 := Lib.hid (HO5.out.step hb6); have HB6 := Lib.hid hby; have hz6 := hby.size; clear hbx hb6; have hbx := hby; clear hby))
      go_wp2_with fail
      go_ret
      exact ⟨.slice A7 ((pth f (L.drop K) (i - K)).length + 1) c7, rfl, by rw [HP2.out hik]; have h := HO7.out; rw [List.length_append] at h; exact h, HB7.out⟩
set_option maxHeartbeats 1600000 in
theorem rpath_no (L : List (List UInt8)) (i : Int) (A : Option Addr) (cap : Nat) (w : World) (hi : i < 0 ∨ (L.length : Int) ≤ i) (hm : L.length ≤ 1099511627776) :
    Calls Tryd.prog 20 #[.slice A L.length cap, .int .i64 i] w fun e w' => e = .returned (.tuple #[.slice none 0 0, .int .i64 1]) ∧ w' = w := by
  rcases hi with hi | hi
  · go_enter Tryd.func20, Tryd.ntmps20
    go_wp2_with fail
    exact bodyPost_ret (v := .tuple #[.slice none 0 0, .int .i64 1]) (by simp [results, Tryd.results20]) rfl ⟨rfl, rfl⟩
  · have h0 : ¬ i < 0 := by omega
    go_enter Tryd.func20, Tryd.ntmps20
    go_wp2_with fail
    exact bodyPost_ret (v := .tuple #[.slice none 0 0, .int .i64 1]) (by simp [results, Tryd.results20]) rfl ⟨rfl, rfl⟩

set_option maxHeartbeats 1600000 in
theorem rpath_yes (f : Nat) (L : List (List UInt8)) (i : Nat) (A : Option Addr) (cap : Nat) (w : World) (hf : L.length ≤ f) (hf2 : f ≤ 1099511627776) (hi : i < L.length) (hl : DL w (· < w.heap.size) L A cap) :
    Calls Tryd.prog 20 #[.slice A L.length cap, .int .i64 i] w fun e w' => ∃ A' c', e = .returned (.tuple #[.slice A' (pth f L i).length c', .int .i64 0]) ∧ OwnD w' w.heap.size (.slice A' (pth f L i).length c') (pth f L i) ∧ Below w.heap.size w w' := by
  have C := Lib.hid (rpathof_all f L i A cap w hf hf2 hi hl)
  have hi2 : (i : Int) < L.length := by omega
  clear hl
  go_enter Tryd.func20, Tryd.ntmps20
  go_wp2_with fail
  refine C.out.mono ?_
  rintro e w2 ⟨v, rfl, ho, hb⟩
  obtain ⟨A', c', rfl⟩ := ho.slice
  have HO := Lib.hid ho
  have HB := Lib.hid hb
  clear ho hb C
  go_wp2_with fail
  exact bodyPost_ret (v := .tuple #[.slice A' (pth f L i).length c', .int .i64 0]) (by simp [results, Tryd.results20]) rfl ⟨A', c', rfl, HO.out, HB.out⟩


set_option maxRecDepth 100000 in
set_option maxHeartbeats 3200000 in
theorem rsame_all (P : List (List UInt8)) (A : Option Addr) (c : Nat) (B : Option Addr) (d : Nat) (w : World) (hp : DL w (· < w.heap.size) P A c) (hq : DL w (· < w.heap.size) P B d) (hn : P.length ≤ 1099511627776) :
    Calls Tryd.prog 21 #[.slice A P.length c, .slice B P.length d] w fun e w' => e = .returned (.bool true) ∧ Below w.heap.size w w' := by
  have HP := Lib.hid hp
  have HQ := Lib.hid hq
  have hc1 := hp.1
  have hc2 := hq.1
  clear hp hq
  go_enter Tryd.func21, Tryd.ntmps21
  go_wp2_with fail
  go_loopw [5] (fun x wr => ∃ k : Nat, k ≤ P.length ∧ x = .int .i64 k ∧ Below w.heap.size w wr) (fun x _ => P.length - (intOf x).toNat)
  case atStart => exact ⟨0, Nat.zero_le _, rfl, Below.refl _ _⟩
  case round =>
    obtain ⟨k, hk, rfl, hb⟩ := hrel
    have HB := Lib.hid hb
    have hz := hb.size
    clear hb
    by_cases hlt : k < P.length
    · obtain ⟨b1, o1, rfl, hS1, hr1⟩ := HP.out.2.2.2.2 (by omega)
      obtain ⟨b2, o2, rfl, hS2, hr2⟩ := HQ.out.2.2.2.2 (by omega)
      obtain ⟨x, hx⟩ : ∃ x, P[k]? = some x := ⟨_, List.getElem?_eq_getElem hlt⟩
      have R1 := Lib.hid (show ∀ ww, Below w.heap.size w ww → ww.rangeAt b1 (o1 + k * 32) (U x) from fun ww h j u hu => (World.cell?_of_block (h.block b1 hS1)).trans (hr1 k x hx j u hu))
      have R2 := Lib.hid (show ∀ ww, Below w.heap.size w ww → ww.rangeAt b2 (o2 + k * 32) (U x) from fun ww h j u hu => (World.cell?_of_block (h.block b2 hS2)).trans (hr2 k x hx j u hu))
      have HX := Lib.hid (HP.out.2.2.2.1 x (List.mem_of_getElem? hx))
      clear hr1 hr2 hx
      go_wp2_with fail
      refine wp_region_noPanic ?_
      have h0 := HB.out.drew
      refine wp_region_held_drew (S := fun ww => Below w.heap.size w ww) (by kernel_rfl) h0 (fun _ => ?_)
      refine tk_move 0 17 (.tmp 0) (.slice (some ⟨b1, o1, none⟩) P.length c) rfl (by kernel_rfl) (by kernel_rfl) (by kernel_rfl) (fun _ _ _ _ h => h) rfl rfl rfl rfl h0 ?_
      simp only [Act.put, List.setIfInBounds_toArray, List.set_cons_zero, List.set_cons_succ]
      refine tk_move 1 18 (.tmp 5) (.int .i64 k) rfl (by kernel_rfl) (by kernel_rfl) (by kernel_rfl) (fun _ _ _ _ h => h) rfl rfl rfl rfl h0 ?_
      simp only [Act.put, List.setIfInBounds_toArray, List.set_cons_zero, List.set_cons_succ]
      refine tk_val 2 19 (.pointer (some ⟨b1, o1 + k * 32, none⟩)) rfl (by kernel_rfl) (by kernel_rfl) (by kernel_rfl) (fun _ _ _ _ h => h) rfl rfl (fun w _ => ev_index (.tmp 17) (.tmp 18) b1 o1 P.length c k rfl rfl rfl hlt) h0 ?_
      simp only [Act.put, List.setIfInBounds_toArray, List.set_cons_zero, List.set_cons_succ]
      refine tk_load 3 20 (.tmp 19) b1 (o1 + k * 32) x rfl (by kernel_rfl) (by kernel_rfl) (by kernel_rfl) (fun _ _ _ _ h => h) rfl rfl rfl rfl (fun w h => R1.out w h) HX.out h0 ?_
      simp only [Act.put, List.setIfInBounds_toArray, List.set_cons_zero, List.set_cons_succ]
      refine tk_move 4 21 (.tmp 1) (.slice (some ⟨b2, o2, none⟩) P.length d) rfl (by kernel_rfl) (by kernel_rfl) (by kernel_rfl) (fun _ _ _ _ h => h) rfl rfl rfl rfl h0 ?_
      simp only [Act.put, List.setIfInBounds_toArray, List.set_cons_zero, List.set_cons_succ]
      refine tk_move 5 22 (.tmp 5) (.int .i64 k) rfl (by kernel_rfl) (by kernel_rfl) (by kernel_rfl) (fun _ _ _ _ h => h) rfl rfl rfl rfl h0 ?_
      simp only [Act.put, List.setIfInBounds_toArray, List.set_cons_zero, List.set_cons_succ]
      refine tk_val 6 23 (.pointer (some ⟨b2, o2 + k * 32, none⟩)) rfl (by kernel_rfl) (by kernel_rfl) (by kernel_rfl) (fun _ _ _ _ h => h) rfl rfl (fun w _ => ev_index (.tmp 21) (.tmp 22) b2 o2 P.length d k rfl rfl rfl hlt) h0 ?_
      simp only [Act.put, List.setIfInBounds_toArray, List.set_cons_zero, List.set_cons_succ]
      refine tk_load 7 24 (.tmp 23) b2 (o2 + k * 32) x rfl (by kernel_rfl) (by kernel_rfl) (by kernel_rfl) (fun _ _ _ _ h => h) rfl rfl rfl rfl (fun w h => R2.out w h) HX.out h0 ?_
      simp only [Act.put, List.setIfInBounds_toArray, List.set_cons_zero, List.set_cons_succ]
      refine tk_val 8 25 (.bool false) rfl (by kernel_rfl) (by kernel_rfl) (by kernel_rfl) (fun _ _ _ _ h => h) rfl rfl (fun w _ => ev_neq (.tmp 20) (.tmp 24) x HX.out rfl rfl rfl) h0 ?_
      simp only [Act.put, List.setIfInBounds_toArray, List.set_cons_zero, List.set_cons_succ]
      refine wpAnyH_done (by kernel_rfl) (NoPanic.normal ?_) _
      have H0 := Lib.hid h0
      clear h0
      go_wp2_with fail
      go_roundw
      case rel => exact ⟨k + 1, by omega, by go_num, H0.out⟩
      case measure => simp [intOf]; omega
    · go_wp2_with fail
      go_ret
      exact ⟨rfl, HB.out⟩
end Go.Proofs.YtgojodldnodjpaaDoor
