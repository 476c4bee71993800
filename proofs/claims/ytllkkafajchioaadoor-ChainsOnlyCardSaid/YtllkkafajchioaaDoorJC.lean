/- Digest: the reference's padding; both hashes are one. -/
import Derived.Test.YtllkkafajchioaaDoorHH
namespace Go.Proofs.YtllkkafajchioaaDoor
open Go.RowKit

theorem wds_congr (x y : List UInt8) (h : ∀ i, i < 64 → by_ x i = by_ y i) : wds x 16 = wds y 16 := by
  unfold wds
  apply List.map_congr_left
  intro t ht
  have := List.mem_range.1 ht
  unfold wAt
  rw [h _ (by omega), h _ (by omega), h _ (by omega), h _ (by omega)]
theorem by_drop (l : List UInt8) (k i : Nat) : by_ (l.drop k) i = by_ l (k + i) := by
  unfold by_
  rw [List.getD_eq_getElem?_getD, List.getD_eq_getElem?_getD, List.getElem?_drop]
theorem by_take (l : List UInt8) (k i : Nat) (h : i < k) : by_ (l.take k) i = by_ l i := by
  unfold by_
  rw [List.getD_eq_getElem?_getD, List.getD_eq_getElem?_getD, List.getElem?_take, if_pos h]
theorem by_left (x y : List UInt8) (i : Nat) (h : i < x.length) : by_ (x ++ y) i = by_ x i := by
  unfold by_
  rw [List.getD_eq_getElem?_getD, List.getD_eq_getElem?_getD, List.getElem?_append_left h]
theorem by_right (x y : List UInt8) (i : Nat) : by_ (x ++ y) (x.length + i) = by_ y i := by
  unfold by_
  rw [List.getD_eq_getElem?_getD, List.getD_eq_getElem?_getD, List.getElem?_append_right (by omega), Nat.add_sub_cancel_left]
theorem foldb_left (s : S8) (x y : List UInt8) : ∀ n, n * 64 ≤ x.length → foldb s (x ++ y) n = foldb s x n
  | 0, _ => rfl
  | n + 1, h => by
    rw [foldb, foldb, foldb_left s x y n (by omega), wds_congr ((x ++ y).drop (n * 64)) (x.drop (n * 64)) fun i hi => by rw [by_drop, by_drop, by_left _ _ _ (by omega)]]
theorem foldb_right (s : S8) (x y : List UInt8) (m : Nat) (hx : x.length = m * 64) : ∀ n, foldb s (x ++ y) (m + n) = foldb (foldb s x m) y n
  | 0 => by rw [Nat.add_zero, foldb_left s x y m (by omega)]; rfl
  | n + 1 => by
    rw [← Nat.add_assoc, foldb, foldb, foldb_right s x y m hx n, wds_congr ((x ++ y).drop ((m + n) * 64)) (y.drop (n * 64)) fun i hi => by
      rw [by_drop, by_drop, show (m + n) * 64 + i = x.length + (n * 64 + i) by rw [hx, Nat.add_mul, Nat.add_assoc], by_right]]
theorem pad_split (l : List UInt8) : padend l l.length = l.take (l.length / 64 * 64) ++ tailOf l := by
  have hk : kpad l.length = kpad (l.drop (l.length / 64 * 64)).length := by
    rw [List.length_drop]
    unfold kpad
    have : (l.length - l.length / 64 * 64) % 64 = l.length % 64 := by omega
    rw [this]
  unfold tailOf padend
  rw [← hk, ← List.append_assoc, ← List.append_assoc, ← List.append_assoc, List.take_append_drop]
/-- the state behind all padded bytes -/
theorem fold_all (l : List UInt8) : foldb iv (padend l l.length) ((padend l l.length).length / 64) = sst l := by
  have ht := tail_len l
  have hl : (l.take (l.length / 64 * 64)).length = l.length / 64 * 64 := by rw [List.length_take]; omega
  rw [pad_split, List.length_append, hl, show (l.length / 64 * 64 + (tailOf l).length) / 64 = l.length / 64 + (tailOf l).length / 64 by omega, foldb_right _ _ _ _ hl]
  rfl

theorem cby_eq2 (n j : Nat) (hn : n ≤ 1000000) (hj : j < 8) : (n : Int) * 8 / 2 ^ (8 * (7 - j)) % 256 = ((cby n j).toNat : Int) := by
  have e : (n : Int) * 8 % 18446744073709551616 = n * 8 := by omega
  rw [← cby_eq, show 8 * (7 - j) = 56 - 8 * j by omega, IntKind.wrap_u64, e]

set_option maxRecDepth 100000 in
set_option maxHeartbeats 1600000 in
theorem padded_all (rest : List UInt8) (A : Option Addr) (cap : Nat) (w : World) (hl : Byt w (· < w.heap.size) rest A cap) (hr : rest.length ≤ 1000000) :
    Calls Tryd.prog 56 #[.slice A rest.length cap] w fun e w' => ∃ v, e = .returned v ∧ Own w' w.heap.size v (padend rest rest.length) ∧ Below w.heap.size w w' := by
  have HL := Lib.hid hl
  have HO0 := Lib.hid (own_row w #[] 0 rfl (Nat.zero_le _))
  have HS0 := Lib.hid (hl.keep (w' := w.alloc (.cells #[] 5)) (S' := (· < w.heap.size)) fun i hi => ⟨hi, Below.heap_alloc _ _ _ hi⟩)
  clear hl
  go_enter Tryd.func56, Tryd.ntmps56
  go_wp2_with (first
    | (at_builtin; refine app_byt rfl (.tmp 6) (.tmp 7) rfl w.heap.size _ _ _ _ [] rest rfl rfl HO0.out HS0.out (by simp; omega) (by simp) ?_; intro v2 w2 ho2 hg2; rw [List.nil_append] at ho2; obtain ⟨A2, c2, e2⟩ := ho2.slice; subst e2; have HO2 := Lib.hid (show Own (w2.alloc (.cells #[.int .u8 128] 5)) w.heap.size (.slice A2 rest.length c2) rest from World.ownsRow.alloc ho2 _); have HB2 := Lib.hid (below_own ((Below.refl w.heap.size w).alloc (Nat.le_refl _) _) hg2 HO0.out (Nat.le_refl _) (by simp)); have hz2 := HB2.out.size; clear ho2 hg2)
    | (at_builtin; refine app_byt rfl (.tmp 8) (.tmp 9) rfl w.heap.size _ _ _ _ rest [0x80] rfl rfl HO2.out (byt_one w2 0x80 128 rfl) (by simp; omega) (by simp; omega) ?_; intro v3 w3 ho3 hg3; obtain ⟨A3, c3, e3⟩ := ho3.slice; subst e3; have HO3 := Lib.hid ho3; have HB3 := Lib.hid (below_own (HB2.out.alloc hz2 _) hg3 HO2.out (Nat.le_refl _) (by simp; omega)); clear ho3 hg3))
  have hbd := kpad_bd rest.length
  go_loopw [3] (fun x wr => ∃ (k : Nat) (L : List UInt8) (A4 : Option Addr) (c4 : Nat), x = .slice A4 L.length c4 ∧ L.length = rest.length + 1 + k ∧ L = rest ++ [0x80] ++ List.replicate k 0 ∧ k ≤ kpad rest.length ∧ Own wr w.heap.size (.slice A4 L.length c4) L ∧ Below w.heap.size w wr) (fun x _ => 2000000 - slen x)
  case atStart => exact ⟨0, rest ++ [0x80], A3, c3, by simp, by simp, by simp, by omega, HO3.out, HB3.out⟩
  case round =>
    obtain ⟨k, L, A4, c4, rfl, hlen, hL, hk, ho, hb⟩ := hrel
    have HL4 := Lib.hid hL
    have HLEN := Lib.hid hlen
    have HO := Lib.hid ho
    have HB := Lib.hid hb
    have hz := hb.size
    by_cases hlt : k < kpad rest.length
    · have hne := kpad_lt _ _ hlt
      rw [← hlen] at hne
      have hne' : ((L.length : Int) % 64 != 56) = true := by
        have : ¬ ((L.length : Int) % 64 = 56) := by omega
        simpa using this
      have HOA := Lib.hid (show Own (wr.alloc (.cells #[.int .u8 0] 5)) w.heap.size (.slice A4 L.length c4) L from World.ownsRow.alloc ho _)
      have hbdl : L.length ≤ 1500000 := by omega
      clear ho hb hL hlen hne
      go_wp2_with (at_builtin; refine app_byt rfl (.tmp 15) (.tmp 16) rfl w.heap.size _ _ _ _ L [0] rfl rfl HOA.out (byt_one wr 0 0 rfl) (by simp; omega) (by simp; omega) ?_; intro v5 w5 ho5 hg5; obtain ⟨A5, c5, e5⟩ := ho5.slice; subst e5; have HO5 := Lib.hid ho5; have HB5 := Lib.hid (below_own (HB.out.alloc hz _) hg5 HOA.out (Nat.le_refl _) (by simp; omega)); clear ho5 hg5)
      go_roundw
      case rel =>
        refine ⟨k + 1, L ++ [0], A5, c5, by simp, by simp [HLEN.out]; omega, ?_, by omega, HO5.out, HB5.out⟩
        rw [HL4.out, List.replicate_succ', ← List.append_assoc]
      case measure => simp [slen]; omega
    · obtain rfl : k = kpad rest.length := by omega
      have he := kpad_eq rest.length
      rw [← hlen] at he
      have hne' : ((L.length : Int) % 64 != 56) = false := by
        have : ((L.length : Int) % 64 = 56) := by omega
        simp [this]
      have hbdl : L.length ≤ 1500000 := by omega
      clear ho hb hL hlen he
      go_wp2_with fail
      go_loopw [3, 5] (fun x i wr => ∃ (j : Nat) (M : List UInt8) (A6 : Option Addr) (c6 : Nat), x = .slice A6 M.length c6 ∧ i = .int .i64 (7 - (j : Int)) ∧ j ≤ 8 ∧ M.length = L.length + j ∧ M = L ++ cbs rest.length j ∧ Own wr w.heap.size (.slice A6 M.length c6) M ∧ Below w.heap.size w wr) (fun _ i _ => (intOf i + 1).toNat)
      case atStart => exact ⟨0, L, A4, c4, rfl, rfl, by omega, rfl, by simp [cbs], HO.out, HB.out⟩
      case round =>
        obtain ⟨j, M, A6, c6, rfl, rfl, hj, hlen, hM, ho, hb⟩ := hrel
        have HM := Lib.hid hM
        have HLEN6 := Lib.hid hlen
        have HO6 := Lib.hid ho
        have HB6 := Lib.hid hb
        have hz6 := hb.size
        have hbd6 : M.length ≤ 1600000 := by omega
        by_cases hlt : j < 8
        · have hsh : (0 : Int) ≤ 8 * (7 - (j : Int)) := by omega
          have hge : (0 : Int) ≤ 7 - (j : Int) := by omega
          have HOA := Lib.hid (show Own (wr.alloc (.cells #[.int .u8 ((rest.length : Int) * 8 / 2 ^ (8 * (7 - j)) % 256)] 5)) w.heap.size (.slice A6 M.length c6) M from World.ownsRow.alloc ho _)
          have HBO := Lib.hid (byt_one wr (cby rest.length j) _ (cby_eq2 rest.length j hr hlt))
          clear ho hb hM hlen
          go_wp2_with (at_builtin; refine app_byt rfl (.tmp 26) (.tmp 32) rfl w.heap.size _ _ _ _ M [cby rest.length j] rfl rfl HOA.out HBO.out (by simp; omega) (by simp; omega) ?_; intro v5 w5 ho5 hg5; obtain ⟨A5, c5, e5⟩ := ho5.slice; subst e5; have HO5 := Lib.hid ho5; have HB5 := Lib.hid (below_own (HB6.out.alloc hz6 _) hg5 HOA.out (Nat.le_refl _) (by simp; omega)); clear ho5 hg5)
          go_roundw
          case rel =>
            refine ⟨j + 1, M ++ [cby rest.length j], A5, c5, by simp, congrArg (Value.int IntKind.i64) (by omega), by omega, by simp [HLEN6.out]; omega, ?_, HO5.out, HB5.out⟩
            rw [cbs_succ, HM.out, List.append_assoc]
          case measure => simp [intOf]; omega
        · obtain rfl : j = 8 := by omega
          clear ho hb hM hlen
          go_wp2_with fail
          go_ret
          refine ⟨_, rfl, ?_, HB6.out⟩
          have h := HO6.out
          rw [HM.out] at h
          rw [padend, ← HL4.out]
          rw [HM.out]
          exact h
end Go.Proofs.YtllkkafajchioaaDoor
