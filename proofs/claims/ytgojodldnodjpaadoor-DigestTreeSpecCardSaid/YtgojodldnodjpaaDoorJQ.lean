/- Digest: Climb. -/
import Derived.Test.YtgojodldnodjpaaDoorJP
namespace Go.Proofs.YtgojodldnodjpaaDoor
open Go.RowKit

theorem flbz : flb 32 [] = z32 := rfl
set_option maxRecDepth 100000 in
set_option maxHeartbeats 1600000 in
theorem Climb_no (f : Nat) (d : List UInt8) (_hd : d.length = 32) (i n : Int) (P : List (List UInt8)) (A : Option Addr) (cap : Nat) (w : World) (hf2 : f ≤ 1099511627776) (_hpl : P.length ≤ 1099511627776)
    (h : n < 1 ∨ 1099511627776 < n ∨ i < 0 ∨ n ≤ i ∨ (n ≤ f ∧ P.length ≠ stp f i.toNat n.toNat)) :
    Calls Tryd.prog 22 #[.agg (U d).toArray, .int .i64 i, .int .i64 n, .slice A P.length cap] w fun e w' => e = .returned (.tuple #[.agg (U z32).toArray, .int .i64 1]) ∧ Below w.heap.size w w' := by
  obtain ⟨W1, hW1⟩ : ∃ W1, (w.alloc (.cells (U d).toArray 26)).alloc (.cells (U (flb 32 [])).toArray 26) = W1 := ⟨_, rfl⟩
  obtain ⟨h0, h1, hb1, hz1⟩ := box2 w (U d).toArray (U (flb 32 [])).toArray 26 26 W1 hW1
  have HW1 := Lib.hid hW1
  have hr1 : RowB W1 (w.heap.size + 1) 26 (flb 32 []) := h1
  have HR1 := Lib.hid hr1
  have HB1 := Lib.hid hb1
  have CS : 0 ≤ i → i < n → n ≤ f → Calls Tryd.prog 41 #[.int .i64 i, .int .i64 n] W1 fun e w' => e = .returned (.int .i64 (stp f i.toNat n.toNat)) ∧ w' = W1 := fun h1 h2 h3 => by
    have := steps_all f i.toNat n.toNat W1 (by omega) (by omega) (by omega)
    rwa [show ((i.toNat : Nat) : Int) = i by omega, show ((n.toNat : Nat) : Int) = n by omega] at this
  have HCS := Lib.hid CS
  have HH := Lib.hid h
  have hst := stp_le f i.toNat n.toNat
  clear h0 h1 hb1 hW1 hr1 h CS
  have HF : Hid (Below w.heap.size w W1) := HB1
  by_cases c1 : n < 1
  · clear HCS
    have hr1 := HR1.out
    rw [← HW1.out] at hr1
    have hbb := HB1.out
    rw [← HW1.out] at hbb
    have HR2 := Lib.hid (hr1.setRow z32)
    have HBB := Lib.hid hbb
    clear hbb HF
    go_enter Tryd.func22, Tryd.ntmps22
    go_wp2_with (refine store_B rfl (.tmp 8) (.tmp 33) rfl (w.heap.size + 1) (flb 32 []) z32 rfl rfl 26 hr1 rfl (by simp [flb]) ?_)
    exact bodyPost_ret (res_two rfl _ _ _ _ _ _ rfl rfl HR2.out rfl) rfl ⟨rfl, below_setRow HBB.out (by omega) _⟩
  by_cases c2 : 1099511627776 < n
  · clear HCS
    have hr1 := HR1.out
    rw [← HW1.out] at hr1
    have hbb := HB1.out
    rw [← HW1.out] at hbb
    have HR2 := Lib.hid (hr1.setRow z32)
    have HBB := Lib.hid hbb
    clear hbb HF
    go_enter Tryd.func22, Tryd.ntmps22
    go_wp2_with (refine store_B rfl (.tmp 8) (.tmp 33) rfl (w.heap.size + 1) (flb 32 []) z32 rfl rfl 26 hr1 rfl (by simp [flb]) ?_)
    exact bodyPost_ret (res_two rfl _ _ _ _ _ _ rfl rfl HR2.out rfl) rfl ⟨rfl, below_setRow HBB.out (by omega) _⟩
  by_cases c3 : i < 0
  · clear HCS
    have hr1 := HR1.out
    rw [← HW1.out] at hr1
    have hbb := HB1.out
    rw [← HW1.out] at hbb
    have HR2 := Lib.hid (hr1.setRow z32)
    have HBB := Lib.hid hbb
    clear hbb HF
    go_enter Tryd.func22, Tryd.ntmps22
    go_wp2_with (refine store_B rfl (.tmp 8) (.tmp 33) rfl (w.heap.size + 1) (flb 32 []) z32 rfl rfl 26 hr1 rfl (by simp [flb]) ?_)
    exact bodyPost_ret (res_two rfl _ _ _ _ _ _ rfl rfl HR2.out rfl) rfl ⟨rfl, below_setRow HBB.out (by omega) _⟩
  by_cases c4 : n ≤ i
  · clear HCS
    have hr1 := HR1.out
    rw [← HW1.out] at hr1
    have hbb := HB1.out
    rw [← HW1.out] at hbb
    have HR2 := Lib.hid (hr1.setRow z32)
    have HBB := Lib.hid hbb
    clear hbb HF
    go_enter Tryd.func22, Tryd.ntmps22
    go_wp2_with (refine store_B rfl (.tmp 8) (.tmp 33) rfl (w.heap.size + 1) (flb 32 []) z32 rfl rfl 26 hr1 rfl (by simp [flb]) ?_)
    exact bodyPost_ret (res_two rfl _ _ _ _ _ _ rfl rfl HR2.out rfl) rfl ⟨rfl, below_setRow HBB.out (by omega) _⟩
  have hh : n ≤ f ∧ P.length ≠ stp f i.toNat n.toNat := by
    rcases HH.out with h | h | h | h | h
    · omega
    · omega
    · omega
    · omega
    · exact h
  have C := Lib.hid (HCS.out (by omega) (by omega) hh.1)
  have hne : (P.length == stp f i.toNat n.toNat) = false := by simpa using hh.2
  have hne2 : (P.length != stp f i.toNat n.toNat) = true := by simpa using hh.2
  have hne3 : ¬ P.length = stp f i.toNat n.toNat := hh.2
  have hne4 : ¬ (P.length : Int) = (stp f i.toNat n.toNat : Nat) := by omega
  generalize stp f i.toNat n.toNat = st at *
  clear hh HCS HH
  go_enter Tryd.func22, Tryd.ntmps22
  go_wp2_with fail
  generalize hW1' : (w.alloc _).alloc _ = W1'
  have e9 : W1' = W1 := hW1'.symm.trans HW1.out
  clear hW1'
  rw [e9]
  clear e9 W1'
  refine C.out.mono ?_
  rintro e w' ⟨rfl, hw'⟩
  rw [hw']
  clear hw' w'
  have hr1 := HR1.out
  have hr2 := hr1.setRow z32
  go_wp2_with (refine store_B rfl (.tmp 8) (.tmp 33) rfl (w.heap.size + 1) (flb 32 []) z32 rfl rfl 26 hr1 rfl (by simp [flb]) ?_)
  exact bodyPost_ret (res_two rfl _ _ _ _ _ _ rfl rfl hr2 rfl) rfl ⟨rfl, below_setRow HB1.out (by omega) _⟩

set_option maxRecDepth 100000 in
set_option maxHeartbeats 1600000 in
theorem Climb_yes (f : Nat) (d : List UInt8) (hd : d.length = 32) (i n : Nat) (P : List (List UInt8)) (A : Option Addr) (cap : Nat) (w : World) (hi : i < n) (hn : n ≤ f) (hf2 : f ≤ 1099511627776) (hl : DL w (· < w.heap.size) P A cap) (hp : P.length = stp f i n) (hk : KR w Kt) :
    Calls Tryd.prog 22 #[.agg (U d).toArray, .int .i64 i, .int .i64 n, .slice A P.length cap] w fun e w' => e = .returned (.tuple #[.agg (U (clm f d i n P)).toArray, .int .i64 0]) ∧ Below w.heap.size w w' := by
  have hlt0 := hk.lt
  obtain ⟨W1, hW1⟩ : ∃ W1, (w.alloc (.cells (U d).toArray 26)).alloc (.cells (U (flb 32 [])).toArray 26) = W1 := ⟨_, rfl⟩
  obtain ⟨h0, h1, hb1, hz1⟩ := box2 w (U d).toArray (U (flb 32 [])).toArray 26 26 W1 hW1
  have C := Lib.hid (steps_all f i n W1 hi hn (by omega))
  have C2 := Lib.hid (climb_all f d i n P A cap W1 hd hi hn hf2 (hl.keep fun j hj => ⟨by omega, hb1.block j hj⟩) hp (hk.keep (hb1.block 0 hlt0)))
  have HW1 := Lib.hid hW1
  have hr0 : RowB W1 w.heap.size 26 d := h0
  have hr1 : RowB W1 (w.heap.size + 1) 26 (flb 32 []) := h1
  have HR1 := Lib.hid hr1
  have HB1 := Lib.hid hb1
  have hst := stp_le f i n
  rw [← hp] at C hst
  have hnn : (n : Int) ≤ 1099511627776 := by omega
  have hn1 : (1 : Int) ≤ n := by omega
  clear h0 h1 hb1 hW1 hr1 hk hl hp
  go_enter Tryd.func22, Tryd.ntmps22
  go_wp2_with fail
  generalize hW1' : (w.alloc _).alloc _ = W1'
  have e9 : W1' = W1 := hW1'.symm.trans HW1.out
  clear hW1'
  rw [e9]
  clear e9 W1'
  refine C.out.mono ?_
  rintro e w' ⟨rfl, hw'⟩
  rw [hw']
  clear hw' w'
  go_wp2_with (refine load_B rfl (.tmp 4) rfl w.heap.size rfl 26 d hr0 hd ?_)
  refine C2.out.mono ?_
  rintro e w2 ⟨rfl, hb2⟩
  have hd2 : RowB w2 (w.heap.size + 1) 26 (flb 32 []) := (hb2.block _ (by omega)).trans HR1.out
  have hr2 := hd2.setRow (clm f d i n P)
  have HB2 := Lib.hid (HB1.out.trans (hb2.mono (by omega)))
  clear C C2 hb2 hr0
  go_wp2_with (refine store_B rfl (.tmp 8) (.tmp 38) rfl (w.heap.size + 1) (flb 32 []) (clm f d i n P) rfl rfl 26 hd2 (clm_len _ _ _ _ _) (by simp [flb]) ?_)
  exact bodyPost_ret (res_two rfl _ _ _ _ _ _ rfl rfl hr2 (clm_len _ _ _ _ _)) rfl ⟨rfl, below_setRow HB2.out (by omega) _⟩
end Go.Proofs.YtgojodldnodjpaaDoor
