/- Digest: steps; lists of digests; Tree. -/
import Derived.Test.YtgojodldnodjpaaDoorHK
import Derived.Test.YtgojodldnodjpaaDoorHJ
import Derived.Deep.MidRow
namespace Go.Proofs.YtgojodldnodjpaaDoor
open Go.RowKit

def stp : Nat → Nat → Nat → Nat
  | 0, _, _ => 0
  | f + 1, i, n => if n ≤ 1 then 0 else if i < hf n then 1 + stp f i (hf n) else 1 + stp f (i - hf n) (n - hf n)

theorem stp_le (f : Nat) : ∀ i n, stp f i n ≤ f := by
  induction f with
  | zero => intro i n; simp [stp]
  | succ f ih =>
    intro i n
    rw [stp]
    have h1 := ih i (hf n)
    have h2 := ih (i - hf n) (n - hf n)
    split
    · omega
    · split <;> omega

set_option maxHeartbeats 800000 in
theorem steps_all (f : Nat) : ∀ (i n : Nat) (w : World), i < n → n ≤ f → f ≤ 2199023255552 →
    Calls Tryd.prog 41 #[.int .i64 i, .int .i64 n] w fun e w' => e = .returned (.int .i64 (stp f i n)) ∧ w' = w := by
  induction f with
  | zero => intro i n w h1 h2; omega
  | succ f ih =>
    intro i n w h1 h2 h3
    have hs := stp_le f
    by_cases hn : n = 1
    · subst hn
      have HS := Lib.hid (show stp (f + 1) i 1 = 0 by rw [stp, if_pos (by omega)])
      go_enter Tryd.func41, Tryd.ntmps41
      go_wp2_with fail
      go_ret
      exact ⟨ret_int (by rw [HS.out]; rfl), rfl⟩
    · obtain ⟨k, _, _, hk1, hk2, hk3⟩ := hf_spec n (by omega) (by omega)
      obtain ⟨K, hK⟩ : ∃ K, K = hf n := ⟨_, rfl⟩
      have C := Lib.hid (split_all n w (by omega) (by omega))
      rw [← hK] at hk1 hk2 hk3 C
      by_cases hi : i < K
      · have HS := Lib.hid (show stp (f + 1) i n = 1 + stp f i K by rw [stp, if_neg (by omega), ← hK, if_pos hi])
        have C2 := Lib.hid (ih i K w hi (by omega) (by omega))
        have hb := hs i K
        clear hK ih hs
        go_enter Tryd.func41, Tryd.ntmps41
        go_wp2_with fail
        refine C.out.mono ?_
        rintro e w' ⟨rfl, rfl⟩
        go_wp2_with fail
        refine C2.out.mono ?_
        rintro e w' ⟨rfl, rfl⟩
        go_wp2_with fail
        go_ret
        exact ⟨ret_int (by rw [HS.out]; omega), rfl⟩
      · have HS := Lib.hid (show stp (f + 1) i n = 1 + stp f (i - K) (n - K) by rw [stp, if_neg (by omega), ← hK, if_neg hi])
        have C2 := Lib.hid (ih (i - K) (n - K) w (by omega) (by omega) (by omega))
        have hb := hs (i - K) (n - K)
        have e1 : ((i - K : Nat) : Int) = (i : Int) - K := by omega
        have e2 : ((n - K : Nat) : Int) = (n : Int) - K := by omega
        rw [e1, e2] at C2
        clear hK ih hs e1 e2
        go_enter Tryd.func41, Tryd.ntmps41
        go_wp2_with fail
        refine C.out.mono ?_
        rintro e w' ⟨rfl, rfl⟩
        go_wp2_with fail
        refine C2.out.mono ?_
        rintro e w' ⟨rfl, rfl⟩
        go_wp2_with fail
        go_ret
        exact ⟨ret_int (by rw [HS.out]; omega), rfl⟩

/-- a slice of digests that reads as L -/
def DL (w : World) (S : Nat → Prop) (L : List (List UInt8)) (A : Option Addr) (cap : Nat) : Prop :=
  L.length ≤ cap ∧ cap ≤ maxLen ∧ (A = none → cap = 0) ∧ (∀ d ∈ L, d.length = 32) ∧ (0 < L.length → ∃ b o, A = some ⟨b, o, none⟩ ∧ S b ∧ ∀ i d, L[i]? = some d → w.rangeAt b (o + i * 32) (U d))
theorem DL.keep {w w' : World} {S S' : Nat → Prop} {L : List (List UInt8)} {A : Option Addr} {cap : Nat} (h : DL w S L A cap) (hs : ∀ i, S i → S' i ∧ w'.heap[i]? = w.heap[i]?) : DL w' S' L A cap := by
  refine ⟨h.1, h.2.1, h.2.2.1, h.2.2.2.1, fun hp => ?_⟩
  obtain ⟨b, o, e, hS, hc⟩ := h.2.2.2.2 hp
  exact ⟨b, o, e, (hs b hS).1, fun i d hd j u hu => (World.cell?_of_block (hs b hS).2).trans (hc i d hd j u hu)⟩
theorem DL.take {w : World} {S : Nat → Prop} {L : List (List UInt8)} {A : Option Addr} {cap : Nat} (h : DL w S L A cap) (n : Nat) : DL w S (L.take n) A cap := by
  refine ⟨by rw [List.length_take]; have := h.1; omega, h.2.1, h.2.2.1, fun d hd => h.2.2.2.1 d (List.mem_of_mem_take hd), fun hp => ?_⟩
  rw [List.length_take] at hp
  obtain ⟨b, o, e, hS, hc⟩ := h.2.2.2.2 (by omega)
  refine ⟨b, o, e, hS, fun i d hd => hc i d ?_⟩
  rw [List.getElem?_take] at hd
  split at hd
  · exact hd
  · cases hd
theorem DL.drop {w : World} {S : Nat → Prop} {L : List (List UInt8)} {b o cap : Nat} (h : DL w S L (some ⟨b, o, none⟩) cap) (n : Nat) : DL w S (L.drop n) (some ⟨b, o + n * 32, none⟩) (cap - n) := by
  refine ⟨by rw [List.length_drop]; have := h.1; omega, by have := h.2.1; omega, (fun e => by cases e), fun d hd => h.2.2.2.1 d (List.mem_of_mem_drop hd), fun hp => ?_⟩
  rw [List.length_drop] at hp
  obtain ⟨b', o', e, hS, hc⟩ := h.2.2.2.2 (by omega)
  injection e with e
  injection e with e1 e2
  subst e1 e2
  refine ⟨b, o + n * 32, rfl, hS, fun i d hd => ?_⟩
  rw [List.getElem?_drop] at hd
  have := hc _ _ hd
  rwa [show o + n * 32 + i * 32 = o + (n + i) * 32 by rw [Nat.add_mul]; omega]

/-- the digest of a list -/
def tree : Nat → List (List UInt8) → List UInt8
  | 0, _ => emptyd
  | f + 1, L => match L with
    | [] => emptyd
    | [d] => leafd d
    | _ => noded (tree f (L.take (hf L.length))) (tree f (L.drop (hf L.length)))
theorem tree_len (f : Nat) (L : List (List UInt8)) : (tree f L).length = 32 := by
  cases f with
  | zero => exact tagd_len _ _
  | succ f =>
    match L with
    | [] => exact tagd_len _ _
    | [d] => exact tagd_len _ _
    | a :: b :: r => exact tagd_len _ _
theorem tree_two (f : Nat) (L : List (List UInt8)) (h : 2 ≤ L.length) : tree (f + 1) L = noded (tree f (L.take (hf L.length))) (tree f (L.drop (hf L.length))) := by
  match L, h with
  | a :: b :: r, _ => rfl
theorem tree_fuel (f : Nat) : ∀ (g : Nat) (L : List (List UInt8)), L.length ≤ f → L.length ≤ g → L.length ≤ 2 ^ 64 → tree f L = tree g L := by
  induction f with
  | zero =>
    intro g L h _ _
    obtain rfl : L = [] := List.eq_nil_of_length_eq_zero (by omega)
    cases g <;> rfl
  | succ f ih =>
    intro g L h1 h2 h3
    by_cases h : 2 ≤ L.length
    · match g, h2 with
      | 0, h2 => omega
      | g + 1, h2 =>
        obtain ⟨k, _, _, hk1, hk2, hk3⟩ := hf_spec L.length h h3
        rw [tree_two _ _ h, tree_two _ _ h, ih g (L.take _) (by rw [List.length_take]; omega) (by rw [List.length_take]; omega) (by rw [List.length_take]; omega), ih g (L.drop _) (by rw [List.length_drop]; omega) (by rw [List.length_drop]; omega) (by rw [List.length_drop]; omega)]
    · match L, h with
      | [], _ => cases g <;> rfl
      | [d], _ =>
        match g, h2 with
        | 0, h2 => simp at h2
        | g + 1, _ => rfl
      | a :: b :: r, h => simp at h

theorem load_D {ops : Array Oper} {rest : List Oper} {o : Oper} {a : Act} {w : World} {Q : Exit → Act → World → Prop} (hgd : o.guard = none) (x : Operand) (ho : o.op = .load 26 x)
    (b ofs : Nat) (d : List UInt8) (hx : a.eval x = .pointer (some ⟨b, ofs, none⟩)) (h : w.rangeAt b ofs (U d)) (hd : d.length = 32)
    (hK : wpList Tryd.prog ops Q rest (a.put o.dst (.agg (U d).toArray)) w) : wpList Tryd.prog ops Q (o :: rest) a w :=
  wpList_load_mid hgd 26 x ho b ofs hx (U d) _ h Tryd.underlying26 rfl (by rw [sz32, U_length, hd]) hK

theorem byt_nil (w : World) (S : Nat → Prop) : Byt w S [] none 0 := ⟨Nat.le_refl _, Nat.zero_le _, fun _ => rfl, fun h => absurd h (by simp)⟩

set_option maxRecDepth 100000 in
set_option maxHeartbeats 1600000 in
theorem tree_nil (A : Option Addr) (cap : Nat) (w : World) (hk : KR w Kt) :
    Calls Tryd.prog 17 #[.slice A 0 cap] w fun e w' => e = .returned (.agg (U emptyd).toArray) ∧ Below w.heap.size w w' := by
  have hlt0 := hk.lt
  obtain ⟨W1, hW1⟩ : ∃ W1, w.alloc (.cells (U (flb 32 [])).toArray 26) = W1 := ⟨_, rfl⟩
  obtain ⟨hr0, hb1, hz1⟩ := box1 w (U (flb 32 [])).toArray 26 W1 hW1
  have C := Lib.hid (tagged_all emptyT [] none 0 W1 (by decide) (by simp) (byt_nil _ _) (hk.keep (hb1.block 0 hlt0)))
  have HR0 := Lib.hid hr0
  have HB1 := Lib.hid hb1
  have HW1 := Lib.hid hW1
  clear hr0 hb1 hW1 hk
  go_enter Tryd.func17, Tryd.ntmps17
  go_wp2_with fail
  generalize hW1' : w.alloc _ = W1'
  have e9 : W1' = W1 := hW1'.symm.trans HW1.out
  clear hW1'
  rw [e9]
  clear e9 W1'
  refine C.out.mono ?_
  rintro e w2 ⟨rfl, hb2⟩
  have hd2 : RowB w2 w.heap.size 26 (flb 32 []) := (hb2.block _ (by omega)).trans HR0.out
  have hr2 := hd2.setRow emptyd
  have HB2 := Lib.hid (HB1.out.trans (hb2.mono (by omega)))
  clear C hb2
  go_wp2_with (refine store_B rfl (.tmp 2) (.tmp 8) rfl w.heap.size (flb 32 []) emptyd rfl rfl 26 hd2 (tagd_len _ _) (by simp [flb]) ?_)
  exact bodyPost_ret (res_B rfl _ _ _ _ _ rfl hr2 (tagd_len _ _)) rfl ⟨rfl, below_setRow HB2.out (Nat.le_refl _) _⟩

set_option maxRecDepth 100000 in
set_option maxHeartbeats 3200000 in
theorem tree_all (f : Nat) : ∀ (L : List (List UInt8)) (A : Option Addr) (cap : Nat) (w : World), L.length ≤ f → f ≤ 2199023255552 → DL w (· < w.heap.size) L A cap → KR w Kt →
    Calls Tryd.prog 17 #[.slice A L.length cap] w fun e w' => e = .returned (.agg (U (tree f L)).toArray) ∧ Below w.heap.size w w' := by
  induction f with
  | zero =>
    intro L A cap w hfu _ hl hk
    obtain rfl : L = [] := List.eq_nil_of_length_eq_zero (by omega)
    exact tree_nil A cap w hk
  | succ f ih =>
    intro L A cap w hfu hf2 hl hk
    by_cases h0 : L = []
    · subst h0
      exact tree_nil A cap w hk
    have hlt0 := hk.lt
    have HK := Lib.hid hk
    have HL := Lib.hid hl
    obtain ⟨W1, hW1⟩ : ∃ W1, w.alloc (.cells (U (flb 32 [])).toArray 26) = W1 := ⟨_, rfl⟩
    obtain ⟨hr0, hb1, hz1⟩ := box1 w (U (flb 32 [])).toArray 26 W1 hW1
    have HR0 := Lib.hid (show RowB W1 w.heap.size 26 (flb 32 []) from hr0)
    have HB1 := Lib.hid hb1
    have HZ1 := Lib.hid hz1
    have hcap := hl.1
    have hcm := hl.2.1
    -- what stays
    have hkeep : ∀ ww, Below W1.heap.size W1 ww → DL ww (· < ww.heap.size) L A cap ∧ KR ww Kt ∧ RowB ww w.heap.size 26 (flb 32 []) ∧ Below w.heap.size w ww := fun ww h => by
      have hw : Below w.heap.size w ww := hb1.trans (h.mono (by omega))
      have := hw.size
      exact ⟨hl.keep fun i hi => ⟨by omega, hw.block i hi⟩, hk.keep (hw.block 0 hlt0), hr0 |> fun x => (h.block _ (by omega)).trans x, hw⟩
    have KEEP := Lib.hid hkeep
    have HW1 := Lib.hid hW1
    clear hk hl hr0 hb1 hz1 hkeep hW1
    focus
      by_cases h1 : L.length = 1
      · obtain ⟨d, rfl⟩ := List.length_eq_one_iff.1 h1
        have hd := HL.out.2.2.2.1 d (List.mem_singleton_self d)
        obtain ⟨b, o, rfl, hS, _⟩ := HL.out.2.2.2.2 (by simp)
        obtain ⟨hl1, hk1, _, _⟩ := KEEP.out W1 (Below.refl _ _)
        obtain ⟨b', o', e, _, hc⟩ := hl1.2.2.2.2 (by simp)
        injection e with e
        injection e with e1 e2
        subst e1 e2
        have hd0 := hc 0 d rfl
        have C := Lib.hid (leaf_all d W1 hd hk1)
        rw [Nat.zero_mul, Nat.add_zero] at hd0
        have HD0 := Lib.hid hd0
        have hd1 := HD0.out
        rw [← HW1.out] at hd1 C
        clear hl1 hk1 hc hd0 h0 h1 hS
        go_enter Tryd.func17, Tryd.ntmps17
        go_wp2_with (refine load_D rfl (.tmp 12) rfl b o d rfl hd1 hd ?_)
        refine C.out.mono ?_
        rintro e w2 ⟨rfl, hb2⟩
        rw [HW1.out] at hb2
        obtain ⟨_, _, hd2, hbw⟩ := KEEP.out w2 hb2
        have HBW := Lib.hid hbw
        have hr2 := hd2.setRow (leafd d)
        clear C hb2 hd1 hbw
        go_wp2_with (refine store_B rfl (.tmp 2) (.tmp 14) rfl w.heap.size (flb 32 []) (leafd d) rfl rfl 26 hd2 (tagd_len _ _) (by simp [flb]) ?_)
        exact bodyPost_ret (res_B rfl _ _ _ _ _ rfl hr2 (tagd_len _ _)) rfl ⟨rfl, below_setRow HBW.out (Nat.le_refl _) _⟩
      · obtain ⟨k, _, _, hk1, hk2, hk3⟩ := hf_spec L.length (by have := List.length_pos_iff.2 h0; omega) (by omega)
        obtain ⟨K, hK⟩ : ∃ K, K = hf L.length := ⟨_, rfl⟩
        have C := Lib.hid (split_all L.length W1 (by omega) (by omega))
        have HT := Lib.hid (show tree (f + 1) L = noded (tree f (L.take K)) (tree f (L.drop K)) by rw [hK]; exact tree_two f L (by omega))
        rw [← hK] at hk1 hk2 hk3 C
        obtain ⟨b, o, rfl, hS, _⟩ := HL.out.2.2.2.2 (by omega)
        have ca : ∀ ww, Below W1.heap.size W1 ww → Calls Tryd.prog 17 #[.slice (some ⟨b, o, none⟩) K cap] ww fun e w' => e = .returned (.agg (U (tree f (L.take K))).toArray) ∧ Below ww.heap.size ww w' := fun ww h => by
          have hlk : (L.take K).length = K := by rw [List.length_take]; omega
          have := ih (L.take K) (some ⟨b, o, none⟩) cap ww (by omega) (by omega) ((KEEP.out ww h).1.take K) (KEEP.out ww h).2.1
          rwa [hlk] at this
        have cb : ∀ ww, Below W1.heap.size W1 ww → Calls Tryd.prog 17 #[.slice (some ⟨b, o + K * 32, none⟩) (L.length - K) (cap - K)] ww fun e w' => e = .returned (.agg (U (tree f (L.drop K))).toArray) ∧ Below ww.heap.size ww w' := fun ww h => by
          have := ih (L.drop K) (some ⟨b, o + K * 32, none⟩) (cap - K) ww (by rw [List.length_drop]; omega) (by omega) ((KEEP.out ww h).1.drop K) (KEEP.out ww h).2.1
          rwa [List.length_drop] at this
        have cn : ∀ ww, Below W1.heap.size W1 ww → Calls Tryd.prog 36 #[.agg (U (tree f (L.take K))).toArray, .agg (U (tree f (L.drop K))).toArray] ww fun e w' => e = .returned (.agg (U (tree (f + 1) L)).toArray) ∧ Below ww.heap.size ww w' := fun ww h => by
          rw [HT.out]
          exact node_all _ _ ww (tree_len _ _) (tree_len _ _) (KEEP.out ww h).2.1
        have CA := Lib.hid ca
        have CB := Lib.hid cb
        have CN := Lib.hid cn
        have STEP := Lib.hid (show ∀ ww w', Below W1.heap.size W1 ww → Below ww.heap.size ww w' → Below W1.heap.size W1 w' from fun ww w' h1 h2 => h1.trans (h2.mono h1.size))
        have hn : ¬ L.length = 0 := by omega
        have hul : (U (tree (f + 1) L)).length = 32 := by rw [U_length, tree_len]
        clear hK h0 ca cb cn
        go_enter Tryd.func17, Tryd.ntmps17
        go_wp2_with fail
        generalize hW1' : w.alloc _ = W1'
        have e9 : W1' = W1 := hW1'.symm.trans HW1.out
        clear hW1'
        rw [e9]
        clear e9 W1'
        refine C.out.mono ?_
        rintro e w' ⟨rfl, hw'⟩
        rw [hw']
        clear hw' w'
        go_wp2_with fail
        have hbx : Below W1.heap.size W1 W1.drew := (Below.refl _ _).drew
        have b1 : K ≤ cap := by omega
        have b2 : K ≤ L.length := by omega
        have b3 : K < cap := by omega
        have b4 : (K : Int) ≤ cap := by omega
        have b5 : (K : Int) ≤ L.length := by omega
        have b6 : ¬ cap = K := by omega
        go_region_law
          (first
            | (go_simp; go_at_call 17; (first | (with_reducible refine (CA.out _ hbx).mono ?_) | (with_reducible refine (CB.out _ hbx).mono ?_)); rintro e w5 ⟨rfl, hb'⟩; have hby := STEP.out _ _ hbx hb'; clear hbx hb'; have hbx := hby; clear hby)
            | (go_simp; go_at_call 36; (with_reducible refine (CN.out _ hbx).mono ?_); rintro e w7 ⟨rfl, hb'⟩; have hby := STEP.out _ _ hbx hb'; clear hbx hb'; have hbx := hby; clear hby; obtain ⟨hst1, hst2⟩ := st_row w7 _ _ _ _ (KEEP.out _ hbx).2.2.1 (by simp [flb]) (tree_len (f + 1) L)))
        have hr9 := (KEEP.out _ hbx).2.2.1.setRow (tree (f + 1) L)
        clear hst1 hst2
        go_wp2_with fail
        exact bodyPost_ret (res_B rfl _ _ _ _ _ rfl hr9 (tree_len _ _)) rfl ⟨rfl, below_setRow (KEEP.out _ hbx).2.2.2 (Nat.le_refl _) _⟩
end Go.Proofs.YtgojodldnodjpaaDoor
