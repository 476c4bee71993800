/- Chains: the digits of a message; the steps that are left. -/
import Derived.Test.YtllkkafajchioaaDoorXB
namespace Go.Proofs.YtllkkafajchioaaDoor
open Go.RowKit

def d16 (m : List UInt8) (i : Nat) : Nat := (by_ m (i / 4)).toNat / 4 ^ (3 - i % 4) % 4
def ds (m : List UInt8) (n : Nat) : List Nat := (List.range n).map (d16 m)
def sm (m : List UInt8) : Nat → Nat
  | 0 => 0
  | n + 1 => sm m n + (3 - d16 m n)
def t3 (s n : Nat) : List Nat := (List.range n).map fun i => s / 4 ^ (2 - i) % 4
/-- the 19 digits -/
def dgl (m : List UInt8) : List Nat := ds m 16 ++ t3 (sm m 16) 3
theorem d16_le (m : List UInt8) (i : Nat) : d16 m i ≤ 3 := by unfold d16; omega
theorem ds_len (m : List UInt8) (n : Nat) : (ds m n).length = n := by simp [ds]
theorem ds_succ (m : List UInt8) (n : Nat) : ds m (n + 1) = ds m n ++ [d16 m n] := by simp [ds, List.range_succ]
theorem t3_len (s n : Nat) : (t3 s n).length = n := by simp [t3]
theorem t3_succ (s n : Nat) : t3 s (n + 1) = t3 s n ++ [s / 4 ^ (2 - n) % 4] := by simp [t3, List.range_succ]
theorem sm_le (m : List UInt8) (n : Nat) : sm m n ≤ 3 * n := by
  induction n with
  | zero => simp [sm]
  | succ n ih => rw [sm]; omega
theorem dgl_len (m : List UInt8) : (dgl m).length = 19 := by rw [dgl, List.length_append, ds_len, t3_len]
theorem dgl_le (m : List UInt8) : ∀ d ∈ dgl m, d ≤ 3 := by
  intro d hd
  rcases List.mem_append.1 hd with h | h
  · obtain ⟨i, _, rfl⟩ := List.mem_map.1 h
    exact d16_le m i
  · obtain ⟨i, _, rfl⟩ := List.mem_map.1 h
    omega
theorem by_get (m : List UInt8) (i : Nat) (h : i < m.length) : m[i]? = some (by_ m i) := by
  rw [by_, List.getD_eq_getElem?_getD, List.getElem?_eq_getElem h]
  rfl

set_option maxRecDepth 100000 in
set_option maxHeartbeats 1600000 in
theorem digitsOf_all (m : List UInt8) (w : World) (hm : m.length = 32) :
    Calls Tryd.prog 29 #[.agg (U m).toArray] w fun e w' => e = .returned (.agg (NI (dgl m)).toArray) ∧ Below w.heap.size w w' := by
  have HM := Lib.hid hm
  clear hm
  go_enter Tryd.func29, Tryd.ntmps29
  go_wp2_with fail
  generalize hW1 : (w.alloc _).alloc _ = W1
  obtain ⟨h0, h1, hb1, hz1⟩ := box2 w (U m).toArray (NI (fln 19 [])).toArray 23 47 W1 hW1
  have R0 := Lib.hid (show RowB W1 w.heap.size 23 m from h0)
  have R1 := Lib.hid (show RowN W1 (w.heap.size + 1) 47 (fln 19 (ds m 0)) from h1)
  have HB1 := Lib.hid hb1
  clear hW1 h0 h1 hb1 hz1
  go_loopw [3, 6] (fun s x wr => ∃ k : Nat, k ≤ 16 ∧ s = .int .i64 (sm m k) ∧ x = .int .i64 k ∧ Hid (RowB wr w.heap.size 23 m) ∧ Hid (RowN wr (w.heap.size + 1) 47 (fln 19 (ds m k))) ∧ Hid (Below w.heap.size w wr)) (fun _ x _ => 16 - (intOf x).toNat)
  case atStart => exact ⟨0, by omega, rfl, rfl, R0, R1, HB1⟩
  case round =>
    obtain ⟨k, hk, rfl, rfl, H0, H1, HB⟩ := hrel
    have hsm := sm_le m k
    by_cases hlt : k < 16
    · have hc := H0.out.cell (by_get m (k / 4) (by rw [HM.out]; omega))
      have hbb := (by_ m (k / 4)).toNat_lt
      have hd := d16_le m k
      have C := digit_all (by_ m (k / 4)).toNat (3 - k % 4) wr (by omega) (by omega)
      rw [show ((3 - k % 4 : Nat) : Int) = 3 - (k : Int) % 4 by omega, show (by_ m (k / 4)).toNat / 4 ^ (3 - k % 4) % 4 = d16 m k from rfl] at C
      have CC := Lib.hid C
      have hn := fln_next 19 (ds m k) (by rw [ds_len]; omega)
      rw [ds_len] at hn
      have hc2 := H1.out.cell hn
      have hf2 := H1.out.frozen k
      have H2 := Lib.hid (H1.out.next (by rw [ds_len]; omega) (d16 m k))
      rw [ds_len, ← ds_succ] at H2
      have HS := Lib.hid (show sm m (k + 1) = sm m k + (3 - d16 m k) from rfl)
      have H3 := Lib.hid (show RowB (wr.setCell ⟨w.heap.size + 1, k, none⟩ (.int .i64 (d16 m k : Int))) w.heap.size 23 m from H0.out.keep (((Below.refl (w.heap.size + 1) wr).setCell (Nat.le_refl _) _).block w.heap.size (by omega)))
      clear C hn
      generalize (by_ m (k / 4)).toNat = B at *
      generalize d16 m k = D at *
      go_wp2_with fail
      refine CC.out.mono ?_
      rintro e w' ⟨rfl, hw'⟩
      rw [hw']
      clear hw' w'
      go_wp2_with fail
      go_roundw
      case rel => exact ⟨k + 1, by omega, by rw [HS.out]; congr 1; omega, rfl, H3, H2, Lib.hid (HB.out.setCell (by simp) _)⟩
      case measure => simp [intOf]; omega
    · obtain rfl : k = 16 := by omega
      have hS : sm m 16 ≤ 48 := hsm
      have HD := Lib.hid (show dgl m = ds m 16 ++ t3 (sm m 16) 3 from rfl)
      have HL := Lib.hid (ds_len m 16)
      generalize sm m 16 = S at *
      generalize ds m 16 = L16 at *
      clear hsm R0 R1 HB1
      rw [show ((16 : Nat) : Int) = 16 from rfl]
      go_wp2_with fail
      go_loopw [27] (fun x wr => ∃ k : Nat, k ≤ 3 ∧ x = .int .i64 k ∧ Hid (RowN wr (w.heap.size + 1) 47 (fln 19 (L16 ++ t3 S k))) ∧ Hid (Below w.heap.size w wr)) (fun x _ => 3 - (intOf x).toNat)
      case atStart => exact ⟨0, by omega, rfl, Lib.hid (by simpa [t3] using H1.out), HB⟩
      case round =>
        obtain ⟨k, hk, rfl, H1, HB⟩ := hrel
        have hl : (L16 ++ t3 S k).length = 16 + k := by rw [List.length_append, HL.out, t3_len]
        by_cases hlt : k < 3
        · have C := digit_all S (2 - k) wr (by omega) (by omega)
          rw [show ((2 - k : Nat) : Int) = 2 - (k : Int) by omega] at C
          have CC := Lib.hid C
          have hn := fln_next 19 (L16 ++ t3 S k) (by rw [hl]; omega)
          rw [hl] at hn
          have hc2 := H1.out.cell hn
          have hf2 := H1.out.frozen (16 + k)
          have H2 := Lib.hid (H1.out.next (by rw [hl]; omega) (S / 4 ^ (2 - k) % 4))
          rw [hl, List.append_assoc, ← t3_succ] at H2
          clear C hn hl
          generalize S / 4 ^ (2 - k) % 4 = D at *
          go_wp2_with fail
          refine CC.out.mono ?_
          rintro e w' ⟨rfl, hw'⟩
          rw [hw']
          clear hw' w'
          go_wp2_with fail
          go_roundw
          case rel => exact ⟨k + 1, by omega, rfl, H2, Lib.hid (HB.out.setCell (by simp) _)⟩
          case measure => simp [intOf]; omega
        · obtain rfl : k = 3 := by omega
          have hfin : RowN wr (w.heap.size + 1) 47 (dgl m) := by
            have := H1.out
            rwa [fln_full _ _ hl, ← HD.out] at this
          clear H1 hl
          go_wp2_with (first | (refine load_N rfl (.tmp 2) rfl (w.heap.size + 1) rfl 47 (dgl m) hfin (dgl_len m) ?_) | (refine store_NS rfl (.tmp 2) (.tmp 38) rfl (w.heap.size + 1) (dgl m) rfl rfl 47 hfin (dgl_len m) ?_))
          exact bodyPost_ret (res_N rfl _ _ _ _ _ rfl hfin (dgl_len m)) rfl ⟨rfl, HB.out⟩

/-- the steps that are left -/
def lft (D : List Nat) : List Nat := D.map (3 - ·)
theorem lft_len (D : List Nat) : (lft D).length = D.length := by simp [lft]

set_option maxRecDepth 100000 in
set_option maxHeartbeats 1600000 in
theorem left_all (D : List Nat) (w : World) (hD : D.length = 19) (h3 : ∀ d ∈ D, d ≤ 3) :
    Calls Tryd.prog 39 #[.agg (NI D).toArray] w fun e w' => e = .returned (.agg (NI (lft D)).toArray) ∧ Below w.heap.size w w' := by
  have HM := Lib.hid hD
  have H3 := Lib.hid h3
  clear hD h3
  go_enter Tryd.func39, Tryd.ntmps39
  go_wp2_with fail
  generalize hW1 : (w.alloc _).alloc _ = W1
  obtain ⟨h0, h1, hb1, hz1⟩ := box2 w (NI D).toArray (NI (fln 19 [])).toArray 47 47 W1 hW1
  have R0 := Lib.hid (show RowN W1 w.heap.size 47 D from h0)
  have R1 := Lib.hid (show RowN W1 (w.heap.size + 1) 47 (fln 19 (lft (D.take 0))) from h1)
  have HB1 := Lib.hid hb1
  clear hW1 h0 h1 hb1 hz1
  go_loopw [4] (fun x wr => ∃ k : Nat, k ≤ 19 ∧ x = .int .i64 k ∧ Hid (RowN wr w.heap.size 47 D) ∧ Hid (RowN wr (w.heap.size + 1) 47 (fln 19 (lft (D.take k)))) ∧ Hid (Below w.heap.size w wr)) (fun x _ => 19 - (intOf x).toNat)
  case atStart => exact ⟨0, by omega, rfl, R0, R1, HB1⟩
  case round =>
    obtain ⟨k, hk, rfl, H0, H1, HB⟩ := hrel
    have hl : (lft (D.take k)).length = k := by rw [lft_len, List.length_take, HM.out]; omega
    by_cases hlt : k < 19
    · obtain ⟨d, hd⟩ : ∃ d, D[k]? = some d := ⟨_, List.getElem?_eq_getElem (by rw [HM.out]; exact hlt)⟩
      have hd3 := H3.out d (List.mem_of_getElem? hd)
      have hc := H0.out.cell hd
      have hn := fln_next 19 (lft (D.take k)) (by rw [hl]; omega)
      rw [hl] at hn
      have hc2 := H1.out.cell hn
      have hf2 := H1.out.frozen k
      have H2 := Lib.hid (H1.out.next (by rw [hl]; omega) (3 - d))
      rw [hl, show lft (D.take k) ++ [3 - d] = lft (D.take (k + 1)) by rw [List.take_add_one, hd]; simp [lft], show ((3 - d : Nat) : Int) = 3 - (d : Int) by omega] at H2
      have H4 := Lib.hid (show RowN (wr.setCell ⟨w.heap.size + 1, k, none⟩ (.int .i64 (3 - (d : Int)))) w.heap.size 47 D from H0.out.keep (((Below.refl (w.heap.size + 1) wr).setCell (Nat.le_refl _) _).block w.heap.size (by omega)))
      clear hn hl hd
      go_wp2_with fail
      go_roundw
      case rel => exact ⟨k + 1, by omega, rfl, H4, H2, Lib.hid (HB.out.setCell (by simp) _)⟩
      case measure => simp [intOf]; omega
    · obtain rfl : k = 19 := by omega
      have hfin : RowN wr (w.heap.size + 1) 47 (lft D) := by
        have := H1.out
        rw [fln_full _ _ hl] at this
        rwa [List.take_of_length_le (by rw [HM.out]; omega)] at this
      have hll : (lft D).length = 19 := by rw [lft_len, HM.out]
      have HLL := Lib.hid hll
      clear H1 hl hll
      go_wp2_with (first | (refine load_N rfl (.tmp 2) rfl (w.heap.size + 1) rfl 47 (lft D) hfin HLL.out ?_) | (refine store_NS rfl (.tmp 2) (.tmp 14) rfl (w.heap.size + 1) (lft D) rfl rfl 47 hfin HLL.out ?_))
      exact bodyPost_ret (res_N rfl _ _ _ _ _ rfl hfin HLL.out) rfl ⟨rfl, HB.out⟩
end Go.Proofs.YtllkkafajchioaaDoor
