/- Digest: the reference's Climb; climbs and paths for any numbers. -/
import Derived.Test.YtgojodldnodjpaaDoorKF
namespace Go.Proofs.YtgojodldnodjpaaDoor
open Go.RowKit

set_option maxRecDepth 100000 in
set_option maxHeartbeats 1600000 in
theorem rClimb_no (f : Nat) (d : List UInt8) (_hd : d.length = 32) (i n : Int) (P : List (List UInt8)) (A : Option Addr) (cap : Nat) (w : World) (hf2 : f ≤ 1099511627776) (_hpl : P.length ≤ 1099511627776)
    (h : n < 1 ∨ 1099511627776 < n ∨ i < 0 ∨ n ≤ i ∨ (n ≤ f ∧ P.length ≠ stp f i.toNat n.toNat)) :
    Calls Tryd.prog 23 #[.agg (U d).toArray, .int .i64 i, .int .i64 n, .slice A P.length cap] w fun e w' => e = .returned (.tuple #[.agg (U z32).toArray, .int .i64 1]) ∧ Below w.heap.size w w' := by
  obtain ⟨W1, hW1⟩ : ∃ W1, (w.alloc (.cells (U d).toArray 26)).alloc (.cells (U (flb 32 [])).toArray 26) = W1 := ⟨_, rfl⟩
  obtain ⟨h0, h1, hb1, hz1⟩ := box2 w (U d).toArray (U (flb 32 [])).toArray 26 26 W1 hW1
  have HW1 := Lib.hid hW1
  have hr1 : RowB W1 (w.heap.size + 1) 26 (flb 32 []) := h1
  have HR1 := Lib.hid hr1
  have HB1 := Lib.hid hb1
  have CS : 0 ≤ i → i < n → n ≤ f → Calls Tryd.prog 43 #[.int .i64 i, .int .i64 n] W1 fun e w' => e = .returned (.int .i64 (stp f i.toNat n.toNat)) ∧ w' = W1 := fun h1 h2 h3 => by
    have := rlength_all f i.toNat n.toNat W1 (by omega) (by omega) (by omega)
    rwa [show ((i.toNat : Nat) : Int) = i by omega, show ((n.toNat : Nat) : Int) = n by omega] at this
  have HCS := Lib.hid CS
  have HH := Lib.hid h
  have hst := stp_le f i.toNat n.toNat
  clear h0 h1 hb1 hW1 hr1 h CS
  have HF : Hid (Below w.heap.size w W1) := HB1
  by_cases c1 : n < 1
  · clear HCS
    have hr1 := HR1.out
    rw [← HW1.out] at hr1
    have hbb := HB1.out
    rw [← HW1.out] at hbb
    have HR2 := Lib.hid (hr1.setRow z32)
    have HBB := Lib.hid hbb
    clear hbb HF
    go_enter Tryd.func23, Tryd.ntmps23
    go_wp2_with (refine store_B rfl (.tmp 8) (.tmp 33) rfl (w.heap.size + 1) (flb 32 []) z32 rfl rfl 26 hr1 rfl (by simp [flb]) ?_)
    exact bodyPost_ret (res_two rfl _ _ _ _ _ _ rfl rfl HR2.out rfl) rfl ⟨rfl, below_setRow HBB.out (by omega) _⟩
  by_cases c2 : 1099511627776 < n
  · clear HCS
    have hr1 := HR1.out
    rw [← HW1.out] at hr1
    have hbb := HB1.out
    rw [← HW1.out] at hbb
    have HR2 := Lib.hid (hr1.setRow z32)
    have HBB := Lib.hid hbb
    clear hbb HF
    go_enter Tryd.func23, Tryd.ntmps23
    go_wp2_with (refine store_B rfl (.tmp 8) (.tmp 33) rfl (w.heap.size + 1) (flb 32 []) z32 rfl rfl 26 hr1 rfl (by simp [flb]) ?_)
    exact bodyPost_ret (res_two rfl _ _ _ _ _ _ rfl rfl HR2.out rfl) rfl ⟨rfl, below_setRow HBB.out (by omega) _⟩
  by_cases c3 : i < 0
  · clear HCS
    have hr1 := HR1.out
    rw [← HW1.out] at hr1
    have hbb := HB1.out
    rw [← HW1.out] at hbb
    have HR2 := Lib.hid (hr1.setRow z32)
    have HBB := Lib.hid hbb
    clear hbb HF
    go_enter Tryd.func23, Tryd.ntmps23
    go_wp2_with (refine store_B rfl (.tmp 8) (.tmp 33) rfl (w.heap.size + 1) (flb 32 []) z32 rfl rfl 26 hr1 rfl (by simp [flb]) ?_)
    exact bodyPost_ret (res_two rfl _ _ _ _ _ _ rfl rfl HR2.out rfl) rfl ⟨rfl, below_setRow HBB.out (by omega) _⟩
  by_cases c4 : n ≤ i
  · clear HCS
    have hr1 := HR1.out
    rw [← HW1.out] at hr1
    have hbb := HB1.out
    rw [← HW1.out] at hbb
    have HR2 := Lib.hid (hr1.setRow z32)
    have HBB := Lib.hid hbb
    clear hbb HF
    go_enter Tryd.func23, Tryd.ntmps23
    go_wp2_with (refine store_B rfl (.tmp 8) (.tmp 33) rfl (w.heap.size + 1) (flb 32 []) z32 rfl rfl 26 hr1 rfl (by simp [flb]) ?_)
    exact bodyPost_ret (res_two rfl _ _ _ _ _ _ rfl rfl HR2.out rfl) rfl ⟨rfl, below_setRow HBB.out (by omega) _⟩
  have hh : n ≤ f ∧ P.length ≠ stp f i.toNat n.toNat := by
    rcases HH.out with h | h | h | h | h
    · omega
    · omega
    · omega
    · omega
    · exact h
  have C := Lib.hid (HCS.out (by omega) (by omega) hh.1)
  have hne : (P.length == stp f i.toNat n.toNat) = false := by simpa using hh.2
  have hne2 : (P.length != stp f i.toNat n.toNat) = true := by simpa using hh.2
  have hne3 : ¬ P.length = stp f i.toNat n.toNat := hh.2
  have hne4 : ¬ (P.length : Int) = (stp f i.toNat n.toNat : Nat) := by omega
  generalize stp f i.toNat n.toNat = st at *
  clear hh HCS HH
  go_enter Tryd.func23, Tryd.ntmps23
  go_wp2_with fail
  generalize hW1' : (w.alloc _).alloc _ = W1'
  have e9 : W1' = W1 := hW1'.symm.trans HW1.out
  clear hW1'
  rw [e9]
  clear e9 W1'
  refine C.out.mono ?_
  rintro e w' ⟨rfl, hw'⟩
  rw [hw']
  clear hw' w'
  have hr1 := HR1.out
  have hr2 := hr1.setRow z32
  go_wp2_with (refine store_B rfl (.tmp 8) (.tmp 33) rfl (w.heap.size + 1) (flb 32 []) z32 rfl rfl 26 hr1 rfl (by simp [flb]) ?_)
  exact bodyPost_ret (res_two rfl _ _ _ _ _ _ rfl rfl hr2 rfl) rfl ⟨rfl, below_setRow HB1.out (by omega) _⟩

set_option maxRecDepth 100000 in
set_option maxHeartbeats 1600000 in
theorem rClimb_yes (f : Nat) (d : List UInt8) (hd : d.length = 32) (i n : Nat) (P : List (List UInt8)) (A : Option Addr) (cap : Nat) (w : World) (hi : i < n) (hn : n ≤ f) (hf2 : f ≤ 1099511627776) (hl : DL w (· < w.heap.size) P A cap) (hp : P.length = stp f i n) :
    Calls Tryd.prog 23 #[.agg (U d).toArray, .int .i64 i, .int .i64 n, .slice A P.length cap] w fun e w' => e = .returned (.tuple #[.agg (U (clm f d i n P)).toArray, .int .i64 0]) ∧ Below w.heap.size w w' := by
  obtain ⟨W1, hW1⟩ : ∃ W1, (w.alloc (.cells (U d).toArray 26)).alloc (.cells (U (flb 32 [])).toArray 26) = W1 := ⟨_, rfl⟩
  obtain ⟨h0, h1, hb1, hz1⟩ := box2 w (U d).toArray (U (flb 32 [])).toArray 26 26 W1 hW1
  have C := Lib.hid (rlength_all f i n W1 hi hn (by omega))
  have C2 := Lib.hid (rclimb_all f d i n P A cap W1 hd hi hn hf2 (hl.keep fun j hj => ⟨by omega, hb1.block j hj⟩) hp)
  have HW1 := Lib.hid hW1
  have hr0 : RowB W1 w.heap.size 26 d := h0
  have hr1 : RowB W1 (w.heap.size + 1) 26 (flb 32 []) := h1
  have HR1 := Lib.hid hr1
  have HB1 := Lib.hid hb1
  have hst := stp_le f i n
  rw [← hp] at C hst
  have hnn : (n : Int) ≤ 1099511627776 := by omega
  have hn1 : (1 : Int) ≤ n := by omega
  clear h0 h1 hb1 hW1 hr1 hl hp
  go_enter Tryd.func23, Tryd.ntmps23
  go_wp2_with fail
  generalize hW1' : (w.alloc _).alloc _ = W1'
  have e9 : W1' = W1 := hW1'.symm.trans HW1.out
  clear hW1'
  rw [e9]
  clear e9 W1'
  refine C.out.mono ?_
  rintro e w' ⟨rfl, hw'⟩
  rw [hw']
  clear hw' w'
  go_wp2_with (refine load_B rfl (.tmp 4) rfl w.heap.size rfl 26 d hr0 hd ?_)
  refine C2.out.mono ?_
  rintro e w2 ⟨rfl, hb2⟩
  have hd2 : RowB w2 (w.heap.size + 1) 26 (flb 32 []) := (hb2.block _ (by omega)).trans HR1.out
  have hr2 := hd2.setRow (clm f d i n P)
  have HB2 := Lib.hid (HB1.out.trans (hb2.mono (by omega)))
  clear C C2 hb2 hr0
  go_wp2_with (refine store_B rfl (.tmp 8) (.tmp 38) rfl (w.heap.size + 1) (flb 32 []) (clm f d i n P) rfl rfl 26 hd2 (clm_len _ _ _ _ _) (by simp [flb]) ?_)
  exact bodyPost_ret (res_two rfl _ _ _ _ _ _ rfl rfl hr2 (clm_len _ _ _ _ _)) rfl ⟨rfl, below_setRow HB2.out (by omega) _⟩

/-- what a climb gives -/
def crd (f : Nat) (d : List UInt8) (i n : Int) (P : List (List UInt8)) : List UInt8 := if 1 ≤ n ∧ n ≤ 1099511627776 ∧ 0 ≤ i ∧ i < n ∧ P.length = stp f i.toNat n.toNat then clm f d i.toNat n.toNat P else z32
def cre (f : Nat) (i n : Int) (P : List (List UInt8)) : Int := if 1 ≤ n ∧ n ≤ 1099511627776 ∧ 0 ≤ i ∧ i < n ∧ P.length = stp f i.toNat n.toNat then 0 else 1
theorem crd_len (f : Nat) (d : List UInt8) (i n : Int) (P : List (List UInt8)) : (crd f d i n P).length = 32 := by
  unfold crd
  split
  · exact clm_len _ _ _ _ _
  · rfl
theorem Climb_any (f : Nat) (d : List UInt8) (hd : d.length = 32) (i n : Int) (P : List (List UInt8)) (A : Option Addr) (cap : Nat) (w : World) (hf1 : 1099511627776 ≤ f) (hf2 : f ≤ 1099511627776) (hl : DL w (· < w.heap.size) P A cap) (hp : P.length ≤ 1099511627776) (hk : KR w Kt) :
    Calls Tryd.prog 22 #[.agg (U d).toArray, .int .i64 i, .int .i64 n, .slice A P.length cap] w fun e w' => e = .returned (.tuple #[.agg (U (crd f d i n P)).toArray, .int .i64 (cre f i n P)]) ∧ Below w.heap.size w w' := by
  unfold crd cre
  by_cases h : 1 ≤ n ∧ n ≤ 1099511627776 ∧ 0 ≤ i ∧ i < n ∧ P.length = stp f i.toNat n.toNat
  · rw [if_pos h, if_pos h]
    obtain ⟨h1, h2, h3, h4, h5⟩ := h
    have := Climb_yes f d hd i.toNat n.toNat P A cap w (by omega) (by omega) hf2 hl h5 hk
    rwa [show ((i.toNat : Nat) : Int) = i by omega, show ((n.toNat : Nat) : Int) = n by omega] at this
  · rw [if_neg h, if_neg h]
    refine Climb_no f d hd i n P A cap w hf2 hp ?_
    by_cases h1 : n < 1
    · exact .inl h1
    by_cases h2 : 1099511627776 < n
    · exact .inr (.inl h2)
    by_cases h3 : i < 0
    · exact .inr (.inr (.inl h3))
    by_cases h4 : n ≤ i
    · exact .inr (.inr (.inr (.inl h4)))
    exact .inr (.inr (.inr (.inr ⟨by omega, fun h5 => h ⟨by omega, by omega, by omega, by omega, h5⟩⟩)))
theorem rClimb_any (f : Nat) (d : List UInt8) (hd : d.length = 32) (i n : Int) (P : List (List UInt8)) (A : Option Addr) (cap : Nat) (w : World) (hf1 : 1099511627776 ≤ f) (hf2 : f ≤ 1099511627776) (hl : DL w (· < w.heap.size) P A cap) (hp : P.length ≤ 1099511627776) :
    Calls Tryd.prog 23 #[.agg (U d).toArray, .int .i64 i, .int .i64 n, .slice A P.length cap] w fun e w' => e = .returned (.tuple #[.agg (U (crd f d i n P)).toArray, .int .i64 (cre f i n P)]) ∧ Below w.heap.size w w' := by
  unfold crd cre
  by_cases h : 1 ≤ n ∧ n ≤ 1099511627776 ∧ 0 ≤ i ∧ i < n ∧ P.length = stp f i.toNat n.toNat
  · rw [if_pos h, if_pos h]
    obtain ⟨h1, h2, h3, h4, h5⟩ := h
    have := rClimb_yes f d hd i.toNat n.toNat P A cap w (by omega) (by omega) hf2 hl h5
    rwa [show ((i.toNat : Nat) : Int) = i by omega, show ((n.toNat : Nat) : Int) = n by omega] at this
  · rw [if_neg h, if_neg h]
    refine rClimb_no f d hd i n P A cap w hf2 hp ?_
    by_cases h1 : n < 1
    · exact .inl h1
    by_cases h2 : 1099511627776 < n
    · exact .inr (.inl h2)
    by_cases h3 : i < 0
    · exact .inr (.inr (.inl h3))
    by_cases h4 : n ≤ i
    · exact .inr (.inr (.inr (.inl h4)))
    exact .inr (.inr (.inr (.inr ⟨by omega, fun h5 => h ⟨by omega, by omega, by omega, by omega, h5⟩⟩)))

/-- what a path is, for any number -/
def prp (f : Nat) (L : List (List UInt8)) (i : Int) : List (List UInt8) := if 0 ≤ i ∧ i < L.length then pth f L i.toNat else []
def pre_ (L : List (List UInt8)) (i : Int) : Int := if 0 ≤ i ∧ i < L.length then 0 else 1
theorem Path_any (f : Nat) (L : List (List UInt8)) (i : Int) (A : Option Addr) (cap : Nat) (w : World) (hf : L.length ≤ f) (hf2 : f ≤ 1099511627776) (hl : DL w (· < w.heap.size) L A cap) (hk : KR w Kt) :
    Calls Tryd.prog 19 #[.slice A L.length cap, .int .i64 i] w fun e w' => ∃ A' c', e = .returned (.tuple #[.slice A' (prp f L i).length c', .int .i64 (pre_ L i)]) ∧ DL w' (fun j => w.heap.size ≤ j ∧ j < w'.heap.size) (prp f L i) A' c' ∧ Below w.heap.size w w' := by
  unfold prp pre_
  by_cases h : 0 ≤ i ∧ i < L.length
  · rw [if_pos h, if_pos h]
    have := path_yes f L i.toNat A cap w hf hf2 (by omega) hl hk
    rw [show ((i.toNat : Nat) : Int) = i by omega] at this
    refine this.mono fun e w' ⟨A', c', he, ho, hb⟩ => ?_
    obtain ⟨A2, c2, e2, hd⟩ := ho.dl
    injection e2 with e3 _ e4
    subst e3 e4
    exact ⟨A', c', he, hd, hb⟩
  · rw [if_neg h, if_neg h]
    refine (path_no L i A cap w (by omega) (by omega)).mono fun e w' ⟨he, hw⟩ => ?_
    subst hw
    exact ⟨none, 0, he, ⟨Nat.le_refl _, Nat.zero_le _, fun _ => rfl, (fun _ h => nomatch h), fun h => absurd h (by simp)⟩, Below.refl _ _⟩
theorem rPath_any (f : Nat) (L : List (List UInt8)) (i : Int) (A : Option Addr) (cap : Nat) (w : World) (hf : L.length ≤ f) (hf2 : f ≤ 1099511627776) (hl : DL w (· < w.heap.size) L A cap) :
    Calls Tryd.prog 20 #[.slice A L.length cap, .int .i64 i] w fun e w' => ∃ A' c', e = .returned (.tuple #[.slice A' (prp f L i).length c', .int .i64 (pre_ L i)]) ∧ DL w' (fun j => w.heap.size ≤ j ∧ j < w'.heap.size) (prp f L i) A' c' ∧ Below w.heap.size w w' := by
  unfold prp pre_
  by_cases h : 0 ≤ i ∧ i < L.length
  · rw [if_pos h, if_pos h]
    have := rpath_yes f L i.toNat A cap w hf hf2 (by omega) hl
    rw [show ((i.toNat : Nat) : Int) = i by omega] at this
    refine this.mono fun e w' ⟨A', c', he, ho, hb⟩ => ?_
    obtain ⟨A2, c2, e2, hd⟩ := ho.dl
    injection e2 with e3 _ e4
    subst e3 e4
    exact ⟨A', c', he, hd, hb⟩
  · rw [if_neg h, if_neg h]
    refine (rpath_no L i A cap w (by omega) (by omega)).mono fun e w' ⟨he, hw⟩ => ?_
    subst hw
    exact ⟨none, 0, he, ⟨Nat.le_refl _, Nat.zero_le _, fun _ => rfl, (fun _ h => nomatch h), fun h => absurd h (by simp)⟩, Below.refl _ _⟩
theorem prp_len (f : Nat) (L : List (List UInt8)) (i : Int) (h : L.length ≤ 32) : (prp f L i).length ≤ 5 := by
  unfold prp
  split
  · rw [pth_len f L i.toNat (by omega)]
    exact stp_log f 5 i.toNat L.length (by simpa using h) (by omega)
  · simp
end Go.Proofs.YtgojodldnodjpaaDoor
