/- Several texts joined: parts LA LB LC LD LE. -/
import Derived.Test.YteicbdjennjcdaaDoorW03
import Derived.Deep.RegionLaw
import Derived.Deep.MidRow
import Derived.DeepKeys
namespace Go.Proofs.YteicbdjennjcdaaDoor
section
set_option maxRecDepth 100000
open Go.RowKit

def leafT : ByteArray := ⟨#[108, 101, 97, 102]⟩
def nodeT : ByteArray := ⟨#[110, 111, 100, 101]⟩
def emptyT : ByteArray := ⟨#[101, 109, 112, 116, 121]⟩
def leafd (d : List UInt8) : List UInt8 := tagd leafT.data.toList d
def noded (a b : List UInt8) : List UInt8 := tagd nodeT.data.toList (a ++ b)
def emptyd : List UInt8 := tagd emptyT.data.toList []

set_option maxRecDepth 100000 in
set_option maxHeartbeats 1600000 in
theorem leaf_all (d : List UInt8) (w : World) (hd : d.length = 32) (hk : KR w Kt) :
    Calls Tryd.prog 60 #[.agg (U d).toArray] w fun e w' => e = .returned (.agg (U (leafd d)).toArray) ∧ Below w.heap.size w w' := by
  have HK := Lib.hid hk
  have hlt0 := hk.lt
  have HD := Lib.hid hd
  clear hk hd
  go_enter Tryd.func60, Tryd.ntmps60
  go_wp2_with fail
  generalize hW1 : (w.alloc _).alloc _ = W1
  obtain ⟨h0, h1, hb1, hz1⟩ := box2 w (U d).toArray (U (flb 32 [])).toArray 23 23 W1 hW1
  clear hW1
  have C := tagged_all leafT d (some ⟨w.heap.size, 0, none⟩) d.length W1 (by decide) (by rw [HD.out]; omega) (((show RowB W1 w.heap.size 23 d from h0).byt (by rw [HD.out]; exact max32)).keep fun i hi => ⟨by omega, rfl⟩) (HK.out.keep (hb1.block 0 hlt0))
  rw [HD.out] at C
  refine C.mono ?_
  rintro e w2 ⟨rfl, hb2⟩
  have hd2 : RowB w2 (w.heap.size + 1) 23 (flb 32 []) := (hb2.block _ (by omega)).trans h1
  have hr2 := hd2.setRow (tagd leafT.data.toList d)
  have HB2 := Lib.hid (hb1.trans (hb2.mono (by omega)))
  clear h0 h1 hb1 C hb2
  go_wp2_with (refine store_B rfl (.tmp 2) (.tmp 4) rfl (w.heap.size + 1) (flb 32 []) (tagd leafT.data.toList d) rfl rfl 23 hd2 (tagd_len _ _) (by simp [flb]) ?_)
  exact bodyPost_ret (res_B rfl _ _ _ _ _ rfl hr2 (tagd_len _ _)) rfl ⟨rfl, below_setRow HB2.out (by omega) _⟩

set_option maxRecDepth 100000 in
set_option maxHeartbeats 1600000 in
theorem pair_all (s : ByteArray) (a b : List UInt8) (w : World) (hs : s.size ≤ 1000000) (ha : a.length = 32) (hb : b.length = 32) (hk : KR w Kt) :
    Calls Tryd.prog 93 #[.string s, .agg (U a).toArray, .agg (U b).toArray] w fun e w' => e = .returned (.agg (U (tagd s.data.toList (a ++ b))).toArray) ∧ Below w.heap.size w w' := by
  have HK := Lib.hid hk
  have hlt0 := hk.lt
  have HA := Lib.hid ha
  have HB := Lib.hid hb
  clear hk ha hb
  go_enter Tryd.func93, Tryd.ntmps93
  go_wp2_with fail
  generalize hW1 : ((w.alloc _).alloc _).alloc _ = W1
  obtain ⟨h0, h1, h2, hb1, hz1⟩ := box3 w (U a).toArray (U b).toArray (U (flb 32 [])).toArray 23 23 23 W1 hW1
  clear hW1
  have ra : RowB W1.drew w.heap.size 23 a := h0
  have rb : RowB W1.drew (w.heap.size + 1) 23 b := h1
  have rd : RowB W1.drew (w.heap.size + 2) 23 (flb 32 []) := h2
  have hbd : Below w.heap.size w W1.drew := hb1.drew
  have hzd : W1.drew.heap.size = w.heap.size + 3 := hz1
  clear h0 h1 h2 hb1
  have HRA := Lib.hid ra
  have HRD := Lib.hid rd
  have HBD := Lib.hid hbd
  have HBY := Lib.hid ((rb.byt (by rw [HB.out]; exact max32)).keep (w' := W1.drew) (S' := (· = w.heap.size + 1)) fun i hi => ⟨hi, rfl⟩)
  rw [HB.out] at HBY
  clear ra rb rd hbd
  have ct : ∀ A4 c4 w4, Byt w4 (fun i => i = w.heap.size ∨ (W1.drew.heap.size ≤ i ∧ i < w4.heap.size)) (a ++ b) A4 c4 → Below W1.drew.heap.size W1.drew w4 →
      Calls Tryd.prog 42 #[.string s, .slice A4 (a.length + b.length) c4] w4 fun e w' => e = .returned (.agg (U (tagd s.data.toList (a ++ b))).toArray) ∧ RowB w' (w.heap.size + 2) 23 (flb 32 []) ∧ Below w.heap.size w w' := by
    intro A4 c4 w4 hy hb
    have hz := hb.size
    have hbw : Below w.heap.size w w4 := HBD.out.trans (hb.mono (by omega))
    have := tagged_all s (a ++ b) A4 c4 w4 hs (by rw [List.length_append, HA.out, HB.out]; omega) (hy.keep fun i hi => ⟨by
      rcases hi with rfl | hi
      · omega
      · exact hi.2, rfl⟩) (HK.out.keep (hbw.block 0 hlt0))
    rw [List.length_append] at this
    refine this.mono fun e w' ⟨he, hb'⟩ => ⟨he, HRD.out.keep ((hb'.block _ (by omega)).trans (hb.block _ (by omega))), hbw.trans (hb'.mono (by omega))⟩
  have CT := Lib.hid ct
  clear ct
  have hul : (U (tagd s.data.toList (a ++ b))).length = 32 := by rw [U_length, tagd_len]
  go_region_law
    (first
      | (refine step_app_row rfl (.tmp 8) (.tmp 9) rfl w.heap.size 32 (· = w.heap.size + 1) (some ⟨w.heap.size + 1, 0, none⟩) 32 a b 23 rfl HA.out.symm (by rw [HB.out]; rfl) HRA.out HBY.out (by rw [HA.out, HB.out]; omega) ?_; intro A4 c4 w4 hy4 hb4; have HY4 := Lib.hid hy4; have HB4 := Lib.hid hb4; clear hy4 hb4)
      | (go_simp; go_at_call 42; (with_reducible refine (CT.out _ _ _ HY4.out HB4.out).mono ?_); rintro e w5 ⟨rfl, hr5, hb5⟩; obtain ⟨hst1, hst2⟩ := st_row w5 _ _ _ _ hr5 (by simp [flb]) (tagd_len s.data.toList (a ++ b)); have HR5 := Lib.hid hr5; have HB5 := Lib.hid hb5; clear hr5 hb5))
  have hr6 := HR5.out.setRow (tagd s.data.toList (a ++ b))
  clear hst1 hst2
  go_wp2_with fail
  exact bodyPost_ret (res_B rfl _ _ _ _ _ rfl hr6 (tagd_len _ _)) rfl ⟨rfl, below_setRow HB5.out (by omega) _⟩

set_option maxRecDepth 100000 in
set_option maxHeartbeats 1600000 in
theorem node_all (a b : List UInt8) (w : World) (ha : a.length = 32) (hb : b.length = 32) (hk : KR w Kt) :
    Calls Tryd.prog 62 #[.agg (U a).toArray, .agg (U b).toArray] w fun e w' => e = .returned (.agg (U (noded a b)).toArray) ∧ Below w.heap.size w w' := by
  have HK := Lib.hid hk
  have hlt0 := hk.lt
  have HA := Lib.hid ha
  have HB := Lib.hid hb
  clear hk ha hb
  obtain ⟨h0, h1, h2, hb1, hz1⟩ := box3 w (U a).toArray (U b).toArray (U (flb 32 [])).toArray 23 23 23 _ rfl
  have ra : RowB _ w.heap.size 23 a := h0
  have rb : RowB _ (w.heap.size + 1) 23 b := h1
  have C := Lib.hid (pair_all nodeT a b _ (by decide) HA.out HB.out (HK.out.keep (hb1.block 0 hlt0)))
  have HB1 := Lib.hid hb1
  have HZ1 := Lib.hid hz1
  have H2 := Lib.hid h2
  clear h0 h1 h2 hb1 hz1
  go_enter Tryd.func62, Tryd.ntmps62
  go_wp2_with (first
    | (refine load_B rfl (.tmp 2) rfl w.heap.size rfl 23 a ra HA.out ?_)
    | (refine load_B rfl (.tmp 3) rfl (w.heap.size + 1) rfl 23 b rb HB.out ?_))
  refine C.out.mono ?_
  rintro e w2 ⟨rfl, hb2⟩
  have hz2 := hb2.size
  rw [HZ1.out] at hz2
  have hd2 : RowB w2 (w.heap.size + 2) 23 (flb 32 []) := (hb2.block _ (by rw [HZ1.out]; omega)).trans H2.out
  have hr2 := hd2.setRow (noded a b)
  have HB2 := Lib.hid (HB1.out.trans (hb2.mono (by rw [HZ1.out]; omega)))
  clear C hb2 ra rb HB1 HZ1 H2
  go_wp2_with (refine store_B rfl (.tmp 4) (.tmp 7) rfl (w.heap.size + 2) (flb 32 []) (noded a b) rfl rfl 23 hd2 (tagd_len _ _) (by simp [flb]) ?_)
  exact bodyPost_ret (res_B rfl _ _ _ _ _ rfl hr2 (tagd_len _ _)) rfl ⟨rfl, below_setRow HB2.out (by omega) _⟩
end
section
set_option maxRecDepth 100000
open Go.RowKit

def stp : Nat → Nat → Nat → Nat
  | 0, _, _ => 0
  | f + 1, i, n => if n ≤ 1 then 0 else if i < hf n then 1 + stp f i (hf n) else 1 + stp f (i - hf n) (n - hf n)

theorem stp_le (f : Nat) : ∀ i n, stp f i n ≤ f := by
  induction f with
  | zero => intro i n; simp [stp]
  | succ f ih =>
    intro i n
    rw [stp]
    have h1 := ih i (hf n)
    have h2 := ih (i - hf n) (n - hf n)
    split
    · omega
    · split <;> omega

set_option maxHeartbeats 800000 in
theorem steps_all (f : Nat) : ∀ (i n : Nat) (w : World), i < n → n ≤ f → f ≤ 2199023255552 →
    Calls Tryd.prog 63 #[.int .i64 i, .int .i64 n] w fun e w' => e = .returned (.int .i64 (stp f i n)) ∧ w' = w := by
  induction f with
  | zero => intro i n w h1 h2; omega
  | succ f ih =>
    intro i n w h1 h2 h3
    have hs := stp_le f
    by_cases hn : n = 1
    · subst hn
      have HS := Lib.hid (show stp (f + 1) i 1 = 0 by rw [stp, if_pos (by omega)])
      go_enter Tryd.func63, Tryd.ntmps63
      go_wp2_with fail
      go_ret
      exact ⟨ret_int (by rw [HS.out]; rfl), rfl⟩
    · obtain ⟨k, _, _, hk1, hk2, hk3⟩ := hf_spec n (by omega) (by omega)
      obtain ⟨K, hK⟩ : ∃ K, K = hf n := ⟨_, rfl⟩
      have C := Lib.hid (split_all n w (by omega) (by omega))
      rw [← hK] at hk1 hk2 hk3 C
      by_cases hi : i < K
      · have HS := Lib.hid (show stp (f + 1) i n = 1 + stp f i K by rw [stp, if_neg (by omega), ← hK, if_pos hi])
        have C2 := Lib.hid (ih i K w hi (by omega) (by omega))
        have hb := hs i K
        clear hK ih hs
        go_enter Tryd.func63, Tryd.ntmps63
        go_wp2_with fail
        refine C.out.mono ?_
        rintro e w' ⟨rfl, rfl⟩
        go_wp2_with fail
        refine C2.out.mono ?_
        rintro e w' ⟨rfl, rfl⟩
        go_wp2_with fail
        go_ret
        exact ⟨ret_int (by rw [HS.out]; omega), rfl⟩
      · have HS := Lib.hid (show stp (f + 1) i n = 1 + stp f (i - K) (n - K) by rw [stp, if_neg (by omega), ← hK, if_neg hi])
        have C2 := Lib.hid (ih (i - K) (n - K) w (by omega) (by omega) (by omega))
        have hb := hs (i - K) (n - K)
        have e1 : ((i - K : Nat) : Int) = (i : Int) - K := by omega
        have e2 : ((n - K : Nat) : Int) = (n : Int) - K := by omega
        rw [e1, e2] at C2
        clear hK ih hs e1 e2
        go_enter Tryd.func63, Tryd.ntmps63
        go_wp2_with fail
        refine C.out.mono ?_
        rintro e w' ⟨rfl, rfl⟩
        go_wp2_with fail
        refine C2.out.mono ?_
        rintro e w' ⟨rfl, rfl⟩
        go_wp2_with fail
        go_ret
        exact ⟨ret_int (by rw [HS.out]; omega), rfl⟩

/-- the digest of a list -/
def tree : Nat → List (List UInt8) → List UInt8
  | 0, _ => emptyd
  | f + 1, L => match L with
    | [] => emptyd
    | [d] => leafd d
    | _ => noded (tree f (L.take (hf L.length))) (tree f (L.drop (hf L.length)))
theorem tree_len (f : Nat) (L : List (List UInt8)) : (tree f L).length = 32 := by
  cases f with
  | zero => exact tagd_len _ _
  | succ f =>
    match L with
    | [] => exact tagd_len _ _
    | [d] => exact tagd_len _ _
    | a :: b :: r => exact tagd_len _ _
theorem tree_two (f : Nat) (L : List (List UInt8)) (h : 2 ≤ L.length) : tree (f + 1) L = noded (tree f (L.take (hf L.length))) (tree f (L.drop (hf L.length))) := by
  match L, h with
  | a :: b :: r, _ => rfl
theorem tree_fuel (f : Nat) : ∀ (g : Nat) (L : List (List UInt8)), L.length ≤ f → L.length ≤ g → L.length ≤ 2 ^ 64 → tree f L = tree g L := by
  induction f with
  | zero =>
    intro g L h _ _
    obtain rfl : L = [] := List.eq_nil_of_length_eq_zero (by omega)
    cases g <;> rfl
  | succ f ih =>
    intro g L h1 h2 h3
    by_cases h : 2 ≤ L.length
    · match g, h2 with
      | 0, h2 => omega
      | g + 1, h2 =>
        obtain ⟨k, _, _, hk1, hk2, hk3⟩ := hf_spec L.length h h3
        rw [tree_two _ _ h, tree_two _ _ h, ih g (L.take _) (by rw [List.length_take]; omega) (by rw [List.length_take]; omega) (by rw [List.length_take]; omega), ih g (L.drop _) (by rw [List.length_drop]; omega) (by rw [List.length_drop]; omega) (by rw [List.length_drop]; omega)]
    · match L, h with
      | [], _ => cases g <;> rfl
      | [d], _ =>
        match g, h2 with
        | 0, h2 => simp at h2
        | g + 1, _ => rfl
      | a :: b :: r, h => simp at h

set_option maxRecDepth 100000 in
set_option maxHeartbeats 1600000 in
theorem tree_nil (A : Option Addr) (cap : Nat) (w : World) (hk : KR w Kt) :
    Calls Tryd.prog 28 #[.slice A 0 cap] w fun e w' => e = .returned (.agg (U emptyd).toArray) ∧ Below w.heap.size w w' := by
  have hlt0 := hk.lt
  obtain ⟨W1, hW1⟩ : ∃ W1, w.alloc (.cells (U (flb 32 [])).toArray 23) = W1 := ⟨_, rfl⟩
  obtain ⟨hr0, hb1, hz1⟩ := box1 w (U (flb 32 [])).toArray 23 W1 hW1
  have C := Lib.hid (tagged_all emptyT [] none 0 W1 (by decide) (by simp) (byt_nil _ _) (hk.keep (hb1.block 0 hlt0)))
  have HR0 := Lib.hid hr0
  have HB1 := Lib.hid hb1
  have HW1 := Lib.hid hW1
  clear hr0 hb1 hW1 hk
  go_enter Tryd.func28, Tryd.ntmps28
  go_wp2_with fail
  generalize hW1' : w.alloc _ = W1'
  have e9 : W1' = W1 := hW1'.symm.trans HW1.out
  clear hW1'
  rw [e9]
  clear e9 W1'
  refine C.out.mono ?_
  rintro e w2 ⟨rfl, hb2⟩
  have hd2 : RowB w2 w.heap.size 23 (flb 32 []) := (hb2.block _ (by omega)).trans HR0.out
  have hr2 := hd2.setRow emptyd
  have HB2 := Lib.hid (HB1.out.trans (hb2.mono (by omega)))
  clear C hb2
  go_wp2_with (refine store_B rfl (.tmp 2) (.tmp 8) rfl w.heap.size (flb 32 []) emptyd rfl rfl 23 hd2 (tagd_len _ _) (by simp [flb]) ?_)
  exact bodyPost_ret (res_B rfl _ _ _ _ _ rfl hr2 (tagd_len _ _)) rfl ⟨rfl, below_setRow HB2.out (Nat.le_refl _) _⟩

set_option maxRecDepth 100000 in
set_option maxHeartbeats 3200000 in
theorem tree_all (f : Nat) : ∀ (L : List (List UInt8)) (A : Option Addr) (cap : Nat) (w : World), L.length ≤ f → f ≤ 2199023255552 → DL w (· < w.heap.size) L A cap → KR w Kt →
    Calls Tryd.prog 28 #[.slice A L.length cap] w fun e w' => e = .returned (.agg (U (tree f L)).toArray) ∧ Below w.heap.size w w' := by
  induction f with
  | zero =>
    intro L A cap w hfu _ hl hk
    obtain rfl : L = [] := List.eq_nil_of_length_eq_zero (by omega)
    exact tree_nil A cap w hk
  | succ f ih =>
    intro L A cap w hfu hf2 hl hk
    by_cases h0 : L = []
    · subst h0
      exact tree_nil A cap w hk
    have hlt0 := hk.lt
    have HK := Lib.hid hk
    have HL := Lib.hid hl
    obtain ⟨W1, hW1⟩ : ∃ W1, w.alloc (.cells (U (flb 32 [])).toArray 23) = W1 := ⟨_, rfl⟩
    obtain ⟨hr0, hb1, hz1⟩ := box1 w (U (flb 32 [])).toArray 23 W1 hW1
    have HR0 := Lib.hid (show RowB W1 w.heap.size 23 (flb 32 []) from hr0)
    have HB1 := Lib.hid hb1
    have HZ1 := Lib.hid hz1
    have hcap := hl.1
    have hcm := hl.2.1
    -- what stays
    have hkeep : ∀ ww, Below W1.heap.size W1 ww → DL ww (· < ww.heap.size) L A cap ∧ KR ww Kt ∧ RowB ww w.heap.size 23 (flb 32 []) ∧ Below w.heap.size w ww := fun ww h => by
      have hw : Below w.heap.size w ww := hb1.trans (h.mono (by omega))
      have := hw.size
      exact ⟨hl.keep fun i hi => ⟨by omega, hw.block i hi⟩, hk.keep (hw.block 0 hlt0), hr0 |> fun x => (h.block _ (by omega)).trans x, hw⟩
    have KEEP := Lib.hid hkeep
    have HW1 := Lib.hid hW1
    clear hk hl hr0 hb1 hz1 hkeep hW1
    focus
      by_cases h1 : L.length = 1
      · obtain ⟨d, rfl⟩ := List.length_eq_one_iff.1 h1
        have hd := HL.out.2.2.2.1 d (List.mem_singleton_self d)
        obtain ⟨b, o, rfl, hS, _⟩ := HL.out.2.2.2.2 (by simp)
        obtain ⟨hl1, hk1, _, _⟩ := KEEP.out W1 (Below.refl _ _)
        obtain ⟨b', o', e, _, hc⟩ := hl1.2.2.2.2 (by simp)
        injection e with e
        injection e with e1 e2
        subst e1 e2
        have hd0 := hc 0 d rfl
        have C := Lib.hid (leaf_all d W1 hd hk1)
        rw [Nat.zero_mul, Nat.add_zero] at hd0
        have HD0 := Lib.hid hd0
        have hd1 := HD0.out
        rw [← HW1.out] at hd1 C
        clear hl1 hk1 hc hd0 h0 h1 hS
        go_enter Tryd.func28, Tryd.ntmps28
        go_wp2_with (refine load_D rfl (.tmp 12) rfl b o d rfl hd1 hd ?_)
        refine C.out.mono ?_
        rintro e w2 ⟨rfl, hb2⟩
        rw [HW1.out] at hb2
        obtain ⟨_, _, hd2, hbw⟩ := KEEP.out w2 hb2
        have HBW := Lib.hid hbw
        have hr2 := hd2.setRow (leafd d)
        clear C hb2 hd1 hbw
        go_wp2_with (refine store_B rfl (.tmp 2) (.tmp 14) rfl w.heap.size (flb 32 []) (leafd d) rfl rfl 23 hd2 (tagd_len _ _) (by simp [flb]) ?_)
        exact bodyPost_ret (res_B rfl _ _ _ _ _ rfl hr2 (tagd_len _ _)) rfl ⟨rfl, below_setRow HBW.out (Nat.le_refl _) _⟩
      · obtain ⟨k, _, _, hk1, hk2, hk3⟩ := hf_spec L.length (by have := List.length_pos_iff.2 h0; omega) (by omega)
        obtain ⟨K, hK⟩ : ∃ K, K = hf L.length := ⟨_, rfl⟩
        have C := Lib.hid (split_all L.length W1 (by omega) (by omega))
        have HT := Lib.hid (show tree (f + 1) L = noded (tree f (L.take K)) (tree f (L.drop K)) by rw [hK]; exact tree_two f L (by omega))
        rw [← hK] at hk1 hk2 hk3 C
        obtain ⟨b, o, rfl, hS, _⟩ := HL.out.2.2.2.2 (by omega)
        have ca : ∀ ww, Below W1.heap.size W1 ww → Calls Tryd.prog 28 #[.slice (some ⟨b, o, none⟩) K cap] ww fun e w' => e = .returned (.agg (U (tree f (L.take K))).toArray) ∧ Below ww.heap.size ww w' := fun ww h => by
          have hlk : (L.take K).length = K := by rw [List.length_take]; omega
          have := ih (L.take K) (some ⟨b, o, none⟩) cap ww (by omega) (by omega) ((KEEP.out ww h).1.take K) (KEEP.out ww h).2.1
          rwa [hlk] at this
        have cb : ∀ ww, Below W1.heap.size W1 ww → Calls Tryd.prog 28 #[.slice (some ⟨b, o + K * 32, none⟩) (L.length - K) (cap - K)] ww fun e w' => e = .returned (.agg (U (tree f (L.drop K))).toArray) ∧ Below ww.heap.size ww w' := fun ww h => by
          have := ih (L.drop K) (some ⟨b, o + K * 32, none⟩) (cap - K) ww (by rw [List.length_drop]; omega) (by omega) ((KEEP.out ww h).1.drop K) (KEEP.out ww h).2.1
          rwa [List.length_drop] at this
        have cn : ∀ ww, Below W1.heap.size W1 ww → Calls Tryd.prog 62 #[.agg (U (tree f (L.take K))).toArray, .agg (U (tree f (L.drop K))).toArray] ww fun e w' => e = .returned (.agg (U (tree (f + 1) L)).toArray) ∧ Below ww.heap.size ww w' := fun ww h => by
          rw [HT.out]
          exact node_all _ _ ww (tree_len _ _) (tree_len _ _) (KEEP.out ww h).2.1
        have CA := Lib.hid ca
        have CB := Lib.hid cb
        have CN := Lib.hid cn
        have STEP := Lib.hid (show ∀ ww w', Below W1.heap.size W1 ww → Below ww.heap.size ww w' → Below W1.heap.size W1 w' from fun ww w' h1 h2 => h1.trans (h2.mono h1.size))
        have hn : ¬ L.length = 0 := by omega
        have hul : (U (tree (f + 1) L)).length = 32 := by rw [U_length, tree_len]
        clear hK h0 ca cb cn
        go_enter Tryd.func28, Tryd.ntmps28
        go_wp2_with fail
        generalize hW1' : w.alloc _ = W1'
        have e9 : W1' = W1 := hW1'.symm.trans HW1.out
        clear hW1'
        rw [e9]
        clear e9 W1'
        refine C.out.mono ?_
        rintro e w' ⟨rfl, hw'⟩
        rw [hw']
        clear hw' w'
        go_wp2_with fail
        have hbx : Below W1.heap.size W1 W1.drew := (Below.refl _ _).drew
        have b1 : K ≤ cap := by omega
        have b2 : K ≤ L.length := by omega
        have b3 : K < cap := by omega
        have b4 : (K : Int) ≤ cap := by omega
        have b5 : (K : Int) ≤ L.length := by omega
        have b6 : ¬ cap = K := by omega
        go_region_law
          (first
            | (go_simp; go_at_call 28; (first | (with_reducible refine (CA.out _ hbx).mono ?_) | (with_reducible refine (CB.out _ hbx).mono ?_)); rintro e w5 ⟨rfl, hb'⟩; have hby := STEP.out _ _ hbx hb'; clear hbx hb'; have hbx := hby; clear hby)
            | (go_simp; go_at_call 62; (with_reducible refine (CN.out _ hbx).mono ?_); rintro e w7 ⟨rfl, hb'⟩; have hby := STEP.out _ _ hbx hb'; clear hbx hb'; have hbx := hby; clear hby; obtain ⟨hst1, hst2⟩ := st_row w7 _ _ _ _ (KEEP.out _ hbx).2.2.1 (by simp [flb]) (tree_len (f + 1) L)))
        have hr9 := (KEEP.out _ hbx).2.2.1.setRow (tree (f + 1) L)
        clear hst1 hst2
        go_wp2_with fail
        exact bodyPost_ret (res_B rfl _ _ _ _ _ rfl hr9 (tree_len _ _)) rfl ⟨rfl, below_setRow (KEEP.out _ hbx).2.2.2 (Nat.le_refl _) _⟩
end
section
set_option maxRecDepth 100000
open Go.RowKit

set_option maxHeartbeats 800000 in
theorem path_none (w : World) : Calls Tryd.prog 37 #[.slice none 0 0, .int .i64 0] w fun e w' => e = .returned (.tuple #[.slice none 0 0, .int .i64 1]) ∧ w' = w := by
  go_enter Tryd.func37, Tryd.ntmps37
  go_wp2_with fail
  exact bodyPost_ret (v := .tuple #[.slice none 0 0, .int .i64 1]) (by simp [results, Tryd.results37]) rfl ⟨rfl, rfl⟩

set_option maxRecDepth 100000 in
set_option maxHeartbeats 1600000 in
theorem climb_leaf (d : List UInt8) (hd : d.length = 32) (w : World) (hk : KR w Kt) (A : Option Addr) (cap : Nat) : Calls Tryd.prog 64 #[.agg (U d).toArray, .int .i64 0, .int .i64 1, .slice A 0 cap] w fun e w' => e = .returned (.agg (U (leafd d)).toArray) ∧ Below w.heap.size w w' := by
  have hlt0 := hk.lt
  obtain ⟨W1, hW1⟩ : ∃ W1, (w.alloc (.cells (U d).toArray 23)).alloc (.cells (U (flb 32 [])).toArray 23) = W1 := ⟨_, rfl⟩
  obtain ⟨h0, h1, hb1, hz1⟩ := box2 w (U d).toArray (U (flb 32 [])).toArray 23 23 W1 hW1
  have C := Lib.hid (leaf_all d W1 hd (hk.keep (hb1.block 0 hlt0)))
  have HW1 := Lib.hid hW1
  have hr0 : RowB W1 w.heap.size 23 d := h0
  have hr1 : RowB W1 (w.heap.size + 1) 23 (flb 32 []) := h1
  have HR1 := Lib.hid hr1
  have HB1 := Lib.hid hb1
  have hr0' := hr0
  rw [← hW1] at hr0'
  rw [← hW1] at C
  clear h0 h1 hb1 hW1 hr1 hk hr0
  go_enter Tryd.func64, Tryd.ntmps64
  go_wp2_with (refine load_B rfl (.tmp 4) rfl w.heap.size rfl 23 d hr0' hd ?_)
  refine C.out.mono ?_
  rintro e w2 ⟨rfl, hb2⟩
  rw [HW1.out] at hb2
  have hd2 : RowB w2 (w.heap.size + 1) 23 (flb 32 []) := (hb2.block _ (by omega)).trans HR1.out
  have hr2 := hd2.setRow (leafd d)
  have HB2 := Lib.hid (HB1.out.trans (hb2.mono (by omega)))
  clear C hb2 hr0'
  go_wp2_with (refine store_B rfl (.tmp 8) (.tmp 14) rfl (w.heap.size + 1) (flb 32 []) (leafd d) rfl rfl 23 hd2 (tagd_len _ _) (by simp [flb]) ?_)
  exact bodyPost_ret (res_B rfl _ _ _ _ _ rfl hr2 (tagd_len _ _)) rfl ⟨rfl, below_setRow HB2.out (by omega) _⟩

set_option maxRecDepth 100000 in
set_option maxHeartbeats 1600000 in
theorem climb_one (d : List UInt8) (hd : d.length = 32) (w : World) (hk : KR w Kt) : Calls Tryd.prog 29 #[.agg (U d).toArray, .int .i64 0, .int .i64 1, .slice none 0 0] w fun e w' => e = .returned (.tuple #[.agg (U (leafd d)).toArray, .int .i64 0]) ∧ Below w.heap.size w w' := by
  have hlt0 := hk.lt
  obtain ⟨W1, hW1⟩ : ∃ W1, (w.alloc (.cells (U d).toArray 23)).alloc (.cells (U (flb 32 [])).toArray 23) = W1 := ⟨_, rfl⟩
  obtain ⟨h0, h1, hb1, hz1⟩ := box2 w (U d).toArray (U (flb 32 [])).toArray 23 23 W1 hW1
  have C := Lib.hid (steps_all 1 0 1 W1 (by omega) (by omega) (by omega))
  rw [show stp 1 0 1 = 0 by decide +kernel] at C
  have C2 := Lib.hid (climb_leaf d hd W1 (hk.keep (hb1.block 0 hlt0)) none 0)
  have HW1 := Lib.hid hW1
  have hr0 : RowB W1 w.heap.size 23 d := h0
  have hr1 : RowB W1 (w.heap.size + 1) 23 (flb 32 []) := h1
  have HR1 := Lib.hid hr1
  have HB1 := Lib.hid hb1
  clear h0 h1 hb1 hW1 hr1 hk
  go_enter Tryd.func29, Tryd.ntmps29
  go_wp2_with fail
  generalize hW1' : (w.alloc _).alloc _ = W1'
  have e9 : W1' = W1 := hW1'.symm.trans HW1.out
  clear hW1'
  rw [e9]
  clear e9 W1'
  refine C.out.mono ?_
  rintro e w' ⟨rfl, hw'⟩
  rw [hw']
  clear hw' w'
  go_wp2_with (refine load_B rfl (.tmp 4) rfl w.heap.size rfl 23 d hr0 hd ?_)
  refine C2.out.mono ?_
  rintro e w2 ⟨rfl, hb2⟩
  have hd2 : RowB w2 (w.heap.size + 1) 23 (flb 32 []) := (hb2.block _ (by omega)).trans HR1.out
  have hr2 := hd2.setRow (leafd d)
  have HB2 := Lib.hid (HB1.out.trans (hb2.mono (by omega)))
  clear C C2 hb2 hr0
  go_wp2_with (refine store_B rfl (.tmp 8) (.tmp 38) rfl (w.heap.size + 1) (flb 32 []) (leafd d) rfl rfl 23 hd2 (tagd_len _ _) (by simp [flb]) ?_)
  exact bodyPost_ret (res_two rfl _ _ _ _ _ _ rfl rfl hr2 (tagd_len _ _)) rfl ⟨rfl, below_setRow HB2.out (by omega) _⟩
end
section
set_option maxRecDepth 100000
open Go.RowKit

/-- the path of an element -/
def pth : Nat → List (List UInt8) → Nat → List (List UInt8)
  | 0, _, _ => []
  | f + 1, L, i => if L.length ≤ 1 then [] else if i < hf L.length then pth f (L.take (hf L.length)) i ++ [tree f (L.drop (hf L.length))] else pth f (L.drop (hf L.length)) (i - hf L.length) ++ [tree f (L.take (hf L.length))]
theorem pth_len (f : Nat) : ∀ (L : List (List UInt8)) (i : Nat), L.length ≤ 2 ^ 64 → (pth f L i).length = stp f i L.length := by
  induction f with
  | zero => intro L i _; rfl
  | succ f ih =>
    intro L i h3
    rw [pth, stp]
    by_cases h1 : L.length ≤ 1
    · rw [if_pos h1, if_pos h1]; rfl
    · rw [if_neg h1, if_neg h1]
      obtain ⟨k, _, _, hk1, hk2, hk3⟩ := hf_spec L.length (by omega) h3
      have e1 : (L.take (hf L.length)).length = hf L.length := by rw [List.length_take]; omega
      have e2 : (L.drop (hf L.length)).length = L.length - hf L.length := by rw [List.length_drop]
      split
      · have := ih (L.take (hf L.length)) i (by omega)
        rw [e1] at this
        simp [this]; omega
      · have := ih (L.drop (hf L.length)) (i - hf L.length) (by omega)
        rw [e2] at this
        simp [this]; omega
theorem pth_dig (f : Nat) : ∀ (L : List (List UInt8)) (i : Nat) (d : List UInt8), d ∈ pth f L i → d.length = 32 := by
  induction f with
  | zero => intro L i d h; simp [pth] at h
  | succ f ih =>
    intro L i d h
    rw [pth] at h
    split at h
    · simp at h
    · split at h
      · rcases List.mem_append.1 h with h | h
        · exact ih _ _ _ h
        · rw [List.mem_singleton.1 h]; exact tree_len _ _
      · rcases List.mem_append.1 h with h | h
        · exact ih _ _ _ h
        · rw [List.mem_singleton.1 h]; exact tree_len _ _

set_option maxRecDepth 100000 in
set_option maxHeartbeats 3200000 in
theorem pathof_all (f : Nat) : ∀ (L : List (List UInt8)) (i : Nat) (A : Option Addr) (cap : Nat) (w : World), L.length ≤ f → f ≤ 1099511627776 → i < L.length → DL w (· < w.heap.size) L A cap → KR w Kt →
    Calls Tryd.prog 71 #[.slice A L.length cap, .int .i64 i] w fun e w' => ∃ v, e = .returned v ∧ OwnD w' w.heap.size v (pth f L i) ∧ Below w.heap.size w w' := by
  induction f with
  | zero => intro L i A cap w h1 _ h2; omega
  | succ f ih =>
    intro L i A cap w hfu hf2 hi hl hk
    by_cases h1 : L.length = 1
    · have HP := Lib.hid (show pth (f + 1) L i = [] by rw [pth, if_pos (by omega)])
      rw [h1]
      clear hl ih h1
      go_enter Tryd.func71, Tryd.ntmps71
      go_wp2_with fail
      go_ret
      exact ⟨_, rfl, by rw [HP.out]; exact OwnD.nil _ _, Below.refl _ _⟩
    have hlt0 := hk.lt
    have HK := Lib.hid hk
    have HL := Lib.hid hl
    have hcap := hl.1
    have hcm : cap ≤ 9223372036854775807 := hl.2.1
    have KEEP := Lib.hid (show ∀ ww, Below w.heap.size w ww → DL ww (· < ww.heap.size) L A cap ∧ KR ww Kt from fun ww h => by
      have := h.size
      exact ⟨hl.keep fun i hi => ⟨by omega, h.block i hi⟩, hk.keep (h.block 0 hlt0)⟩)
    have STEP := Lib.hid (show ∀ ww w', Below w.heap.size w ww → Below ww.heap.size ww w' → Below w.heap.size w w' from fun ww w' h1 h2 => h1.trans (h2.mono h1.size))
    obtain ⟨k, _, _, hk1, hk2, hk3⟩ := hf_spec L.length (by omega) (by omega)
    obtain ⟨K, hK⟩ : ∃ K, K = hf L.length := ⟨_, rfl⟩
    have C := Lib.hid (split_all L.length w (by omega) (by omega))
    have HP1 := Lib.hid (show i < K → pth (f + 1) L i = pth f (L.take K) i ++ [tree f (L.drop K)] from fun h => by rw [pth, if_neg (by omega), ← hK, if_pos h])
    have HP2 := Lib.hid (show ¬ i < K → pth (f + 1) L i = pth f (L.drop K) (i - K) ++ [tree f (L.take K)] from fun h => by rw [pth, if_neg (by omega), ← hK, if_neg h])
    rw [← hK] at hk1 hk2 hk3 C
    obtain ⟨b, o, rfl, hS, _⟩ := hl.2.2.2.2 (by omega)
    have hlk : (L.take K).length = K := by rw [List.length_take]; omega
    have hld : (L.drop K).length = L.length - K := by rw [List.length_drop]
    have ta := Lib.hid (show ∀ ww, Below w.heap.size w ww → Calls Tryd.prog 28 #[.slice (some ⟨b, o, none⟩) K cap] ww fun e w' => e = .returned (.agg (U (tree f (L.take K))).toArray) ∧ Below ww.heap.size ww w' from fun ww h => by
      have := tree_all f (L.take K) (some ⟨b, o, none⟩) cap ww (by omega) (by omega) ((KEEP.out ww h).1.take K) (KEEP.out ww h).2
      rwa [hlk] at this)
    have tb := Lib.hid (show ∀ ww, Below w.heap.size w ww → Calls Tryd.prog 28 #[.slice (some ⟨b, o + K * 32, none⟩) (L.length - K) (cap - K)] ww fun e w' => e = .returned (.agg (U (tree f (L.drop K))).toArray) ∧ Below ww.heap.size ww w' from fun ww h => by
      have := tree_all f (L.drop K) (some ⟨b, o + K * 32, none⟩) (cap - K) ww (by omega) (by omega) ((KEEP.out ww h).1.drop K) (KEEP.out ww h).2
      rwa [hld] at this)
    have pa := Lib.hid (show i < K → ∀ ww, Below w.heap.size w ww → Calls Tryd.prog 71 #[.slice (some ⟨b, o, none⟩) K cap, .int .i64 i] ww fun e w' => ∃ A' c', e = .returned (.slice A' (pth f (L.take K) i).length c') ∧ OwnD w' w.heap.size (.slice A' (pth f (L.take K) i).length c') (pth f (L.take K) i) ∧ Below ww.heap.size ww w' from fun hik ww h => by
      have := ih (L.take K) i (some ⟨b, o, none⟩) cap ww (by omega) (by omega) (by omega) ((KEEP.out ww h).1.take K) (KEEP.out ww h).2
      rw [hlk] at this
      refine this.mono fun e w' ⟨v, he, ho, hb⟩ => ?_
      obtain ⟨A', c', rfl⟩ := ho.slice
      exact ⟨A', c', he, ho.low h.size, hb⟩)
    have pb := Lib.hid (show ¬ i < K → ∀ ww, Below w.heap.size w ww → Calls Tryd.prog 71 #[.slice (some ⟨b, o + K * 32, none⟩) (L.length - K) (cap - K), .int .i64 ((i : Int) - K)] ww fun e w' => ∃ A' c', e = .returned (.slice A' (pth f (L.drop K) (i - K)).length c') ∧ OwnD w' w.heap.size (.slice A' (pth f (L.drop K) (i - K)).length c') (pth f (L.drop K) (i - K)) ∧ Below ww.heap.size ww w' from fun hik ww h => by
      have := ih (L.drop K) (i - K) (some ⟨b, o + K * 32, none⟩) (cap - K) ww (by omega) (by omega) (by omega) ((KEEP.out ww h).1.drop K) (KEEP.out ww h).2
      rw [hld, show ((i - K : Nat) : Int) = (i : Int) - K by omega] at this
      refine this.mono fun e w' ⟨v, he, ho, hb⟩ => ?_
      obtain ⟨A', c', rfl⟩ := ho.slice
      exact ⟨A', c', he, ho.low h.size, hb⟩)
    have HB1 := Lib.hid (fold32 (tree f (L.drop K)) (tree_len _ _))
    have HB2 := Lib.hid (fold32 (tree f (L.take K)) (tree_len _ _))
    have pl1 := stp_le f i K
    have pl2 := stp_le f (i - K) (L.length - K)
    have pn1 := pth_len f (L.take K) i (by omega)
    have pn2 := pth_len f (L.drop K) (i - K) (by omega)
    rw [hlk] at pn1
    rw [hld] at pn2
    have q1 : (pth f (L.take K) i).length ≤ 1099511627775 := by omega
    have q2 : (pth f (L.drop K) (i - K)).length ≤ 1099511627775 := by omega
    have hn : ¬ L.length = 1 := by omega
    clear hK ih hl hk hlk hld pl1 pl2 pn1 pn2 h1
    go_enter Tryd.func71, Tryd.ntmps71
    go_wp2_with fail
    refine C.out.mono ?_
    rintro e w' ⟨rfl, hw'⟩
    rw [hw']
    clear hw' w'
    have hbx : Below w.heap.size w w.drew := (Below.refl _ _).drew
    have b1 : K ≤ cap := by omega
    have b2 : K ≤ L.length := by omega
    have b3 : K < cap := by omega
    have b4 : (K : Int) ≤ cap := by omega
    have b5 : (K : Int) ≤ L.length := by omega
    have b6 : ¬ cap = K := by omega
    by_cases hik : i < K
    · go_wp2_with fail
      obtain ⟨hbs, hfo⟩ := HB1.out
      have PA := Lib.hid (pa.out hik)
      clear pa pb C
      go_region_law
        (first
          | (refine step_app_dig rfl (.tmp 19) (.tmp 24) rfl w.heap.size w6.heap.size _ (pth f (L.take K) i) (tree f (L.drop K)) rfl rfl (HO6.out.alloc _) (heap_alloc_new w6 _) (tree_len _ _) (by omega) (by simp; omega) ?_; intro v7 w7 ho7 hg7; obtain ⟨A7, c7, rfl⟩ := ho7.slice; have HO7 := Lib.hid ho7; have HB7 := Lib.hid (below_ownD (HB6.out.alloc HB6.out.size _) hg7 (HO6.out.alloc _) (Nat.le_refl _) (by simp; omega)); clear ho7 hg7)
          | (go_simp; go_at_call 71; (with_reducible refine (PA.out _ hbx).mono ?_); rintro e w5 ⟨A5, c5, rfl, ho5, hb5⟩; have hby := STEP.out _ _ hbx hb5; clear hbx hb5; have HO5 := Lib.hid ho5; have hbx := hby; clear hby ho5)
          | (go_simp; go_at_call 28; (with_reducible refine (tb.out _ hbx).mono ?_); rintro e w6 ⟨rfl, hb6⟩; have hby := STEP.out _ _ hbx hb6; have HO6 := Lib.hid (HO5.out.step hb6); have HB6 := Lib.hid hby; have hz6 := hby.size; clear hbx hb6; have hbx := hby; clear hby))
      go_wp2_with fail
      go_ret
      exact ⟨.slice A7 ((pth f (L.take K) i).length + 1) c7, rfl, by rw [HP1.out hik]; have h := HO7.out; rw [List.length_append] at h; exact h, HB7.out⟩
    · have hwr : IntKind.i64.wrap ((i : Int) - K) = (i : Int) - K := IntWalk.i64_in _ (by omega)
      go_wp2_with fail
      obtain ⟨hbs, hfo⟩ := HB2.out
      have PB := Lib.hid (pb.out hik)
      clear pa pb C
      go_region_law
        (first
          | (refine step_app_dig rfl (.tmp 32) (.tmp 37) rfl w.heap.size w6.heap.size _ (pth f (L.drop K) (i - K)) (tree f (L.take K)) rfl rfl (HO6.out.alloc _) (heap_alloc_new w6 _) (tree_len _ _) (by omega) (by simp; omega) ?_; intro v7 w7 ho7 hg7; obtain ⟨A7, c7, rfl⟩ := ho7.slice; have HO7 := Lib.hid ho7; have HB7 := Lib.hid (below_ownD (HB6.out.alloc HB6.out.size _) hg7 (HO6.out.alloc _) (Nat.le_refl _) (by simp; omega)); clear ho7 hg7)
          | (go_simp; go_at_call 71; (with_reducible refine (PB.out _ hbx).mono ?_); rintro e w5 ⟨A5, c5, rfl, ho5, hb5⟩; have hby := STEP.out _ _ hbx hb5; clear hbx hb5; have HO5 := Lib.hid ho5; have hbx := hby; clear hby ho5)
          | (go_simp; go_at_call 28; (with_reducible refine (ta.out _ hbx).mono ?_); rintro e w6 ⟨rfl, hb6⟩; have hby := STEP.out _ _ hbx hb6; have HO6 := Lib.hid (HO5.out.step hb6); have HB6 := Lib.hid hby; have hz6 := hby.size; clear hbx hb6; have hbx := hby; clear hby))
      go_wp2_with fail
      go_ret
      exact ⟨.slice A7 ((pth f (L.drop K) (i - K)).length + 1) c7, rfl, by rw [HP2.out hik]; have h := HO7.out; rw [List.length_append] at h; exact h, HB7.out⟩
end
section
set_option maxRecDepth 100000
open Go.RowKit

set_option maxHeartbeats 1600000 in
theorem path_no (L : List (List UInt8)) (i : Int) (A : Option Addr) (cap : Nat) (w : World) (hi : i < 0 ∨ (L.length : Int) ≤ i) (hm : L.length ≤ 1099511627776) :
    Calls Tryd.prog 37 #[.slice A L.length cap, .int .i64 i] w fun e w' => e = .returned (.tuple #[.slice none 0 0, .int .i64 1]) ∧ w' = w := by
  rcases hi with hi | hi
  · go_enter Tryd.func37, Tryd.ntmps37
    go_wp2_with fail
    exact bodyPost_ret (v := .tuple #[.slice none 0 0, .int .i64 1]) (by simp [results, Tryd.results37]) rfl ⟨rfl, rfl⟩
  · have h0 : ¬ i < 0 := by omega
    go_enter Tryd.func37, Tryd.ntmps37
    go_wp2_with fail
    exact bodyPost_ret (v := .tuple #[.slice none 0 0, .int .i64 1]) (by simp [results, Tryd.results37]) rfl ⟨rfl, rfl⟩

set_option maxHeartbeats 1600000 in
theorem path_yes (f : Nat) (L : List (List UInt8)) (i : Nat) (A : Option Addr) (cap : Nat) (w : World) (hf : L.length ≤ f) (hf2 : f ≤ 1099511627776) (hi : i < L.length) (hl : DL w (· < w.heap.size) L A cap) (hk : KR w Kt) :
    Calls Tryd.prog 37 #[.slice A L.length cap, .int .i64 i] w fun e w' => ∃ A' c', e = .returned (.tuple #[.slice A' (pth f L i).length c', .int .i64 0]) ∧ OwnD w' w.heap.size (.slice A' (pth f L i).length c') (pth f L i) ∧ Below w.heap.size w w' := by
  have C := Lib.hid (pathof_all f L i A cap w hf hf2 hi hl hk)
  have hi2 : (i : Int) < L.length := by omega
  clear hl hk
  go_enter Tryd.func37, Tryd.ntmps37
  go_wp2_with fail
  refine C.out.mono ?_
  rintro e w2 ⟨v, rfl, ho, hb⟩
  obtain ⟨A', c', rfl⟩ := ho.slice
  have HO := Lib.hid ho
  have HB := Lib.hid hb
  clear ho hb C
  go_wp2_with fail
  exact bodyPost_ret (v := .tuple #[.slice A' (pth f L i).length c', .int .i64 0]) (by simp [results, Tryd.results37]) rfl ⟨A', c', rfl, HO.out, HB.out⟩

/-- what a path leads to -/
def clm : Nat → List UInt8 → Nat → Nat → List (List UInt8) → List UInt8
  | 0, d, _, _, _ => leafd d
  | f + 1, d, i, n, P => if n ≤ 1 then leafd d else if i < hf n then noded (clm f d i (hf n) P.dropLast) (P.getLastD []) else noded (P.getLastD []) (clm f d (i - hf n) (n - hf n) P.dropLast)
theorem clm_len (f : Nat) (d : List UInt8) (i n : Nat) (P : List (List UInt8)) : (clm f d i n P).length = 32 := by
  cases f with
  | zero => exact tagd_len _ _
  | succ f =>
    rw [clm]
    split
    · exact tagd_len _ _
    · split <;> exact tagd_len _ _
/-- climbing the path of an element leads to the digest of the list -/
theorem clm_pth (f : Nat) : ∀ (L : List (List UInt8)) (i : Nat) (d : List UInt8), L.length ≤ f → L.length ≤ 2 ^ 64 → L[i]? = some d → clm f d i L.length (pth f L i) = tree f L := by
  induction f with
  | zero =>
    intro L i d h _ hd
    obtain rfl : L = [] := List.eq_nil_of_length_eq_zero (by omega)
    simp at hd
  | succ f ih =>
    intro L i d h1 h2 hd
    have hi : i < L.length := (List.getElem?_eq_some_iff.1 hd).1
    rw [clm, pth]
    by_cases hn : L.length ≤ 1
    · rw [if_pos hn]
      obtain ⟨x, rfl⟩ := List.length_eq_one_iff.1 (show L.length = 1 by omega)
      obtain rfl : i = 0 := by simp at hi; omega
      simp at hd
      subst hd
      rfl
    · obtain ⟨k, _, _, hk1, hk2, hk3⟩ := hf_spec L.length (by omega) h2
      rw [if_neg hn, if_neg hn, tree_two f L (by omega)]
      have e1 : (L.take (hf L.length)).length = hf L.length := by rw [List.length_take]; omega
      have e2 : (L.drop (hf L.length)).length = L.length - hf L.length := by rw [List.length_drop]
      by_cases hik : i < hf L.length
      · rw [if_pos hik, if_pos hik]
        have := ih (L.take (hf L.length)) i d (by omega) (by omega) (by rw [List.getElem?_take, if_pos hik]; exact hd)
        rw [e1] at this
        rw [List.dropLast_concat, this]
        simp
      · rw [if_neg hik, if_neg hik]
        have := ih (L.drop (hf L.length)) (i - hf L.length) d (by omega) (by omega) (by rw [List.getElem?_drop, show hf L.length + (i - hf L.length) = i by omega]; exact hd)
        rw [e2] at this
        rw [List.dropLast_concat, this]
        simp

theorem dropLast_take (P : List (List UInt8)) : P.dropLast = P.take (P.length - 1) := by rw [List.dropLast_eq_take]
theorem last_get (P : List (List UInt8)) (h : 0 < P.length) : P[P.length - 1]? = some (P.getLastD []) := by
  cases P with
  | nil => simp at h
  | cons p P => rw [← List.getLast?_eq_getElem?]; simp [List.getLast?_cons]
end
end Go.Proofs.YteicbdjennjcdaaDoor
