/- Digest: paths. -/
import Derived.Test.YtgojodldnodjpaaDoorJM
namespace Go.Proofs.YtgojodldnodjpaaDoor
open Go.RowKit

theorem OwnD.low {w : World} {b b' : Nat} {v : Value} {L : List (List UInt8)} (h : OwnD w b v L) (hb : b' ≤ b) : OwnD w b' v L := by
  refine ⟨⟨h.1.1, ?_⟩, h.2⟩
  rcases h.1.2 with h | ⟨g, cap, cur, e, hg, hh, r⟩
  · exact .inl h
  · exact .inr ⟨g, cap, cur, e, by omega, hh, r⟩
theorem OwnD.step {w w' : World} {b : Nat} {v : Value} {L : List (List UInt8)} (h : OwnD w b v L) (hb : Below w.heap.size w w') : OwnD w' b v L :=
  h.kept fun g hg => hb.block g (World.ownsRow.lt h.1 g hg).2
theorem step_app_dig {ops : Array Oper} {o : Oper} {a : Act} {K : Act → World → Prop} {Q : Exit → Act → World → Prop} {E : Prop} {w : World} (hgd : o.guard = none) (s x : Operand)
    (ho : o.op = .call { callee := .builtin .append, args := #[s, x], argTypes := #[30, 30] })
    (base g : Nat) (v : Value) (L : List (List UInt8)) (d : List UInt8) (hs : a.eval s = v) (hx : a.eval x = .slice (some ⟨g, 0, none⟩) 1 1) (hown : OwnD w base v L) (hsrc : RowB w g 26 d) (hd : d.length = 32)
    (hlen : L.length + 1 ≤ 1099511627776) (hbase : base ≤ w.heap.size)
    (h : ∀ v' w', OwnD w' base v' (L ++ [d]) → w.grownBy w' v.ownBlock → K (a.put o.dst v') w') : if Region.wanted o (yielded ops a.tmps) = true then Oper.wp Tryd.prog o a w K Q else E := by
  have hw : Region.wanted o (yielded ops a.tmps) = true := by simp [Region.wanted, hgd]
  rw [if_pos hw]
  exact wp_app_dig s x ho base g v L d hs hx hown hsrc hd hlen hbase h

/-- a digest laid into new cells -/
theorem fold32 (d : List UInt8) (hd : d.length = 32) : (U d).length = 32 ∧ List.foldl (fun cs x => cs.setIfInBounds x.2 x.1) #[Value.int IntKind.u8 0, Value.int IntKind.u8 0, Value.int IntKind.u8 0, Value.int IntKind.u8 0, Value.int IntKind.u8 0, Value.int IntKind.u8 0, Value.int IntKind.u8 0, Value.int IntKind.u8 0, Value.int IntKind.u8 0, Value.int IntKind.u8 0, Value.int IntKind.u8 0, Value.int IntKind.u8 0, Value.int IntKind.u8 0, Value.int IntKind.u8 0, Value.int IntKind.u8 0, Value.int IntKind.u8 0, Value.int IntKind.u8 0, Value.int IntKind.u8 0, Value.int IntKind.u8 0, Value.int IntKind.u8 0, Value.int IntKind.u8 0, Value.int IntKind.u8 0, Value.int IntKind.u8 0, Value.int IntKind.u8 0, Value.int IntKind.u8 0, Value.int IntKind.u8 0, Value.int IntKind.u8 0, Value.int IntKind.u8 0, Value.int IntKind.u8 0, Value.int IntKind.u8 0, Value.int IntKind.u8 0, Value.int IntKind.u8 0] (U d).zipIdx = (U d).toArray := by
  have hu : (U d).length = 32 := by rw [U_length, hd]
  refine ⟨hu, ?_⟩
  apply Array.toList_inj.1
  rw [fold_set (U d) 0 _ (by rw [hu]; rfl)]
  simp

/-- the path of an element -/
def pth : Nat → List (List UInt8) → Nat → List (List UInt8)
  | 0, _, _ => []
  | f + 1, L, i => if L.length ≤ 1 then [] else if i < hf L.length then pth f (L.take (hf L.length)) i ++ [tree f (L.drop (hf L.length))] else pth f (L.drop (hf L.length)) (i - hf L.length) ++ [tree f (L.take (hf L.length))]
theorem pth_len (f : Nat) : ∀ (L : List (List UInt8)) (i : Nat), L.length ≤ 2 ^ 64 → (pth f L i).length = stp f i L.length := by
  induction f with
  | zero => intro L i _; rfl
  | succ f ih =>
    intro L i h3
    rw [pth, stp]
    by_cases h1 : L.length ≤ 1
    · rw [if_pos h1, if_pos h1]; rfl
    · rw [if_neg h1, if_neg h1]
      obtain ⟨k, _, _, hk1, hk2, hk3⟩ := hf_spec L.length (by omega) h3
      have e1 : (L.take (hf L.length)).length = hf L.length := by rw [List.length_take]; omega
      have e2 : (L.drop (hf L.length)).length = L.length - hf L.length := by rw [List.length_drop]
      split
      · have := ih (L.take (hf L.length)) i (by omega)
        rw [e1] at this
        simp [this]; omega
      · have := ih (L.drop (hf L.length)) (i - hf L.length) (by omega)
        rw [e2] at this
        simp [this]; omega
theorem pth_dig (f : Nat) : ∀ (L : List (List UInt8)) (i : Nat) (d : List UInt8), d ∈ pth f L i → d.length = 32 := by
  induction f with
  | zero => intro L i d h; simp [pth] at h
  | succ f ih =>
    intro L i d h
    rw [pth] at h
    split at h
    · simp at h
    · split at h
      · rcases List.mem_append.1 h with h | h
        · exact ih _ _ _ h
        · rw [List.mem_singleton.1 h]; exact tree_len _ _
      · rcases List.mem_append.1 h with h | h
        · exact ih _ _ _ h
        · rw [List.mem_singleton.1 h]; exact tree_len _ _

set_option maxRecDepth 100000 in
set_option maxHeartbeats 3200000 in
theorem pathof_all (f : Nat) : ∀ (L : List (List UInt8)) (i : Nat) (A : Option Addr) (cap : Nat) (w : World), L.length ≤ f → f ≤ 1099511627776 → i < L.length → DL w (· < w.heap.size) L A cap → KR w Kt →
    Calls Tryd.prog 39 #[.slice A L.length cap, .int .i64 i] w fun e w' => ∃ v, e = .returned v ∧ OwnD w' w.heap.size v (pth f L i) ∧ Below w.heap.size w w' := by
  induction f with
  | zero => intro L i A cap w h1 _ h2; omega
  | succ f ih =>
    intro L i A cap w hfu hf2 hi hl hk
    by_cases h1 : L.length = 1
    · have HP := Lib.hid (show pth (f + 1) L i = [] by rw [pth, if_pos (by omega)])
      rw [h1]
      clear hl ih h1
      go_enter Tryd.func39, Tryd.ntmps39
      go_wp2_with fail
      go_ret
      exact ⟨_, rfl, by rw [HP.out]; exact OwnD.nil _ _, Below.refl _ _⟩
    have hlt0 := hk.lt
    have HK := Lib.hid hk
    have HL := Lib.hid hl
    have hcap := hl.1
    have hcm : cap ≤ 9223372036854775807 := hl.2.1
    have KEEP := Lib.hid (show ∀ ww, Below w.heap.size w ww → DL ww (· < ww.heap.size) L A cap ∧ KR ww Kt from fun ww h => by
      have := h.size
      exact ⟨hl.keep fun i hi => ⟨by omega, h.block i hi⟩, hk.keep (h.block 0 hlt0)⟩)
    have STEP := Lib.hid (show ∀ ww w', Below w.heap.size w ww → Below ww.heap.size ww w' → Below w.heap.size w w' from fun ww w' h1 h2 => h1.trans (h2.mono h1.size))
    obtain ⟨k, _, _, hk1, hk2, hk3⟩ := hf_spec L.length (by omega) (by omega)
    obtain ⟨K, hK⟩ : ∃ K, K = hf L.length := ⟨_, rfl⟩
    have C := Lib.hid (split_all L.length w (by omega) (by omega))
    have HP1 := Lib.hid (show i < K → pth (f + 1) L i = pth f (L.take K) i ++ [tree f (L.drop K)] from fun h => by rw [pth, if_neg (by omega), ← hK, if_pos h])
    have HP2 := Lib.hid (show ¬ i < K → pth (f + 1) L i = pth f (L.drop K) (i - K) ++ [tree f (L.take K)] from fun h => by rw [pth, if_neg (by omega), ← hK, if_neg h])
    rw [← hK] at hk1 hk2 hk3 C
    obtain ⟨b, o, rfl, hS, _⟩ := hl.2.2.2.2 (by omega)
    have hlk : (L.take K).length = K := by rw [List.length_take]; omega
    have hld : (L.drop K).length = L.length - K := by rw [List.length_drop]
    have ta := Lib.hid (show ∀ ww, Below w.heap.size w ww → Calls Tryd.prog 17 #[.slice (some ⟨b, o, none⟩) K cap] ww fun e w' => e = .returned (.agg (U (tree f (L.take K))).toArray) ∧ Below ww.heap.size ww w' from fun ww h => by
      have := tree_all f (L.take K) (some ⟨b, o, none⟩) cap ww (by omega) (by omega) ((KEEP.out ww h).1.take K) (KEEP.out ww h).2
      rwa [hlk] at this)
    have tb := Lib.hid (show ∀ ww, Below w.heap.size w ww → Calls Tryd.prog 17 #[.slice (some ⟨b, o + K * 32, none⟩) (L.length - K) (cap - K)] ww fun e w' => e = .returned (.agg (U (tree f (L.drop K))).toArray) ∧ Below ww.heap.size ww w' from fun ww h => by
      have := tree_all f (L.drop K) (some ⟨b, o + K * 32, none⟩) (cap - K) ww (by omega) (by omega) ((KEEP.out ww h).1.drop K) (KEEP.out ww h).2
      rwa [hld] at this)
    have pa := Lib.hid (show i < K → ∀ ww, Below w.heap.size w ww → Calls Tryd.prog 39 #[.slice (some ⟨b, o, none⟩) K cap, .int .i64 i] ww fun e w' => ∃ A' c', e = .returned (.slice A' (pth f (L.take K) i).length c') ∧ OwnD w' w.heap.size (.slice A' (pth f (L.take K) i).length c') (pth f (L.take K) i) ∧ Below ww.heap.size ww w' from fun hik ww h => by
      have := ih (L.take K) i (some ⟨b, o, none⟩) cap ww (by omega) (by omega) (by omega) ((KEEP.out ww h).1.take K) (KEEP.out ww h).2
      rw [hlk] at this
      refine this.mono fun e w' ⟨v, he, ho, hb⟩ => ?_
      obtain ⟨A', c', rfl⟩ := ho.slice
      exact ⟨A', c', he, ho.low h.size, hb⟩)
    have pb := Lib.hid (show ¬ i < K → ∀ ww, Below w.heap.size w ww → Calls Tryd.prog 39 #[.slice (some ⟨b, o + K * 32, none⟩) (L.length - K) (cap - K), .int .i64 ((i : Int) - K)] ww fun e w' => ∃ A' c', e = .returned (.slice A' (pth f (L.drop K) (i - K)).length c') ∧ OwnD w' w.heap.size (.slice A' (pth f (L.drop K) (i - K)).length c') (pth f (L.drop K) (i - K)) ∧ Below ww.heap.size ww w' from fun hik ww h => by
      have := ih (L.drop K) (i - K) (some ⟨b, o + K * 32, none⟩) (cap - K) ww (by omega) (by omega) (by omega) ((KEEP.out ww h).1.drop K) (KEEP.out ww h).2
      rw [hld, show ((i - K : Nat) : Int) = (i : Int) - K by omega] at this
      refine this.mono fun e w' ⟨v, he, ho, hb⟩ => ?_
      obtain ⟨A', c', rfl⟩ := ho.slice
      exact ⟨A', c', he, ho.low h.size, hb⟩)
    have HB1 := Lib.hid (fold32 (tree f (L.drop K)) (tree_len _ _))
    have HB2 := Lib.hid (fold32 (tree f (L.take K)) (tree_len _ _))
    have pl1 := stp_le f i K
    have pl2 := stp_le f (i - K) (L.length - K)
    have pn1 := pth_len f (L.take K) i (by omega)
    have pn2 := pth_len f (L.drop K) (i - K) (by omega)
    rw [hlk] at pn1
    rw [hld] at pn2
    have q1 : (pth f (L.take K) i).length ≤ 1099511627775 := by omega
    have q2 : (pth f (L.drop K) (i - K)).length ≤ 1099511627775 := by omega
    have hn : ¬ L.length = 1 := by omega
    clear hK ih hl hk hlk hld pl1 pl2 pn1 pn2 h1
    go_enter Tryd.func39, Tryd.ntmps39
    go_wp2_with fail
    refine C.out.mono ?_
    rintro e w' ⟨rfl, hw'⟩
    rw [hw']
    clear hw' w'
    have hbx : Below w.heap.size w w.drew := (Below.refl _ _).drew
    have b1 : K ≤ cap := by omega
    have b2 : K ≤ L.length := by omega
    have b3 : K < cap := by omega
    have b4 : (K : Int) ≤ cap := by omega
    have b5 : (K : Int) ≤ L.length := by omega
    have b6 : ¬ cap = K := by omega
    by_cases hik : i < K
    · go_wp2_with fail
      obtain ⟨hbs, hfo⟩ := HB1.out
      have PA := Lib.hid (pa.out hik)
      clear pa pb C
      go_region_law
        (first
          | (refine step_app_dig rfl (.tmp 19) (.tmp 24) rfl w.heap.size w6.heap.size _ (pth f (L.take K) i) (tree f (L.drop K)) rfl rfl (HO6.out.alloc _) (heap_alloc_new w6 _) (tree_len _ _) (by omega) (by simp; omega) ?_; intro v7 w7 ho7 hg7; obtain ⟨A7, c7, rfl⟩ := ho7.slice; have HO7 := Lib.hid ho7; have HB7 := Lib.hid (below_ownD (HB6.out.alloc HB6.out.size _) hg7 (HO6.out.alloc _) (Nat.le_refl _) (by simp; omega)); clear ho7 hg7)
          | (go_simp; go_at_call 39; (with_reducible refine (PA.out _ hbx).mono ?_); rintro e w5 ⟨A5, c5, rfl, ho5, hb5⟩; have hby := STEP.out _ _ hbx hb5; clear hbx hb5; have HO5 := Lib.hid ho5; have hbx := hby; clear hby ho5)
          | (go_simp; go_at_call 17; (with_reducible refine (tb.out _ hbx).mono ?_); rintro e w6 ⟨rfl, hb6⟩; have hby := STEP.out _ _ hbx hb6; have HO6 := Lib.hid (HO5.out.step hb6); have HB6 := Lib.hid hby; have hz6 := hby.size; clear hbx hb6; have hbx := hby; clear hby))
      go_wp2_with fail
      go_ret
      exact ⟨.slice A7 ((pth f (L.take K) i).length + 1) c7, rfl, by rw [HP1.out hik]; have h := HO7.out; rw [List.length_append] at h; exact h, HB7.out⟩
    · have hwr : IntKind.i64.wrap ((i : Int) - K) = (i : Int) - K := IntWalk.i64_in _ (by omega)
      go_wp2_with fail
      obtain ⟨hbs, hfo⟩ := HB2.out
      have PB := Lib.hid (pb.out hik)
      clear pa pb C
      go_region_law
        (first
          | (refine step_app_dig rfl (.tmp 32) (.tmp 37) rfl w.heap.size w6.heap.size _ (pth f (L.drop K) (i - K)) (tree f (L.take K)) rfl rfl (HO6.out.alloc _) (heap_alloc_new w6 _) (tree_len _ _) (by omega) (by simp; omega) ?_; intro v7 w7 ho7 hg7; obtain ⟨A7, c7, rfl⟩ := ho7.slice; have HO7 := Lib.hid ho7; have HB7 := Lib.hid (below_ownD (HB6.out.alloc HB6.out.size _) hg7 (HO6.out.alloc _) (Nat.le_refl _) (by simp; omega)); clear ho7 hg7)
          | (go_simp; go_at_call 39; (with_reducible refine (PB.out _ hbx).mono ?_); rintro e w5 ⟨A5, c5, rfl, ho5, hb5⟩; have hby := STEP.out _ _ hbx hb5; clear hbx hb5; have HO5 := Lib.hid ho5; have hbx := hby; clear hby ho5)
          | (go_simp; go_at_call 17; (with_reducible refine (ta.out _ hbx).mono ?_); rintro e w6 ⟨rfl, hb6⟩; have hby := STEP.out _ _ hbx hb6; have HO6 := Lib.hid (HO5.out.step hb6); have HB6 := Lib.hid hby; have hz6 := hby.size; clear hbx hb6; have hbx := hby; clear hby))
      go_wp2_with fail
      go_ret
      exact ⟨.slice A7 ((pth f (L.drop K) (i - K)).length + 1) c7, rfl, by rw [HP2.out hik]; have h := HO7.out; rw [List.length_append] at h; exact h, HB7.out⟩
end Go.Proofs.YtgojodldnodjpaaDoor
