/- Several texts joined: parts JC JD JE. -/
import Derived.Test.YteicbdjennjcdaaDoorW03
import Derived.Test.YteicbdjennjcdaaDoorW04
import Derived.Deep.RegionLaw
namespace Go.Proofs.YteicbdjennjcdaaDoor
section
set_option maxRecDepth 100000
open Go.RowKit

theorem wds_congr (x y : List UInt8) (h : ∀ i, i < 64 → by_ x i = by_ y i) : wds x 16 = wds y 16 := by
  unfold wds
  apply List.map_congr_left
  intro t ht
  have := List.mem_range.1 ht
  unfold wAt
  rw [h _ (by omega), h _ (by omega), h _ (by omega), h _ (by omega)]
theorem by_drop (l : List UInt8) (k i : Nat) : by_ (l.drop k) i = by_ l (k + i) := by
  unfold by_
  rw [List.getD_eq_getElem?_getD, List.getD_eq_getElem?_getD, List.getElem?_drop]
theorem by_take (l : List UInt8) (k i : Nat) (h : i < k) : by_ (l.take k) i = by_ l i := by
  unfold by_
  rw [List.getD_eq_getElem?_getD, List.getD_eq_getElem?_getD, List.getElem?_take, if_pos h]
theorem by_left (x y : List UInt8) (i : Nat) (h : i < x.length) : by_ (x ++ y) i = by_ x i := by
  unfold by_
  rw [List.getD_eq_getElem?_getD, List.getD_eq_getElem?_getD, List.getElem?_append_left h]
theorem by_right (x y : List UInt8) (i : Nat) : by_ (x ++ y) (x.length + i) = by_ y i := by
  unfold by_
  rw [List.getD_eq_getElem?_getD, List.getD_eq_getElem?_getD, List.getElem?_append_right (by omega), Nat.add_sub_cancel_left]
theorem foldb_left (s : S8) (x y : List UInt8) : ∀ n, n * 64 ≤ x.length → foldb s (x ++ y) n = foldb s x n
  | 0, _ => rfl
  | n + 1, h => by
    rw [foldb, foldb, foldb_left s x y n (by omega), wds_congr ((x ++ y).drop (n * 64)) (x.drop (n * 64)) fun i hi => by rw [by_drop, by_drop, by_left _ _ _ (by omega)]]
theorem foldb_right (s : S8) (x y : List UInt8) (m : Nat) (hx : x.length = m * 64) : ∀ n, foldb s (x ++ y) (m + n) = foldb (foldb s x m) y n
  | 0 => by rw [Nat.add_zero, foldb_left s x y m (by omega)]; rfl
  | n + 1 => by
    rw [← Nat.add_assoc, foldb, foldb, foldb_right s x y m hx n, wds_congr ((x ++ y).drop ((m + n) * 64)) (y.drop (n * 64)) fun i hi => by
      rw [by_drop, by_drop, show (m + n) * 64 + i = x.length + (n * 64 + i) by rw [hx, Nat.add_mul, Nat.add_assoc], by_right]]
theorem pad_split (l : List UInt8) : padend l l.length = l.take (l.length / 64 * 64) ++ tailOf l := by
  have hk : kpad l.length = kpad (l.drop (l.length / 64 * 64)).length := by
    rw [List.length_drop]
    unfold kpad
    have : (l.length - l.length / 64 * 64) % 64 = l.length % 64 := by omega
    rw [this]
  unfold tailOf padend
  rw [← hk, ← List.append_assoc, ← List.append_assoc, ← List.append_assoc, List.take_append_drop]
/-- the state behind all padded bytes -/
theorem fold_all (l : List UInt8) : foldb iv (padend l l.length) ((padend l l.length).length / 64) = sst l := by
  have ht := tail_len l
  have hl : (l.take (l.length / 64 * 64)).length = l.length / 64 * 64 := by rw [List.length_take]; omega
  rw [pad_split, List.length_append, hl, show (l.length / 64 * 64 + (tailOf l).length) / 64 = l.length / 64 + (tailOf l).length / 64 by omega, foldb_right _ _ _ _ hl]
  rfl

theorem cby_eq2 (n j : Nat) (hn : n ≤ 1000000) (hj : j < 8) : (n : Int) * 8 / 2 ^ (8 * (7 - j)) % 256 = ((cby n j).toNat : Int) := by
  have e : (n : Int) * 8 % 18446744073709551616 = n * 8 := by omega
  rw [← cby_eq, show 8 * (7 - j) = 56 - 8 * j by omega, IntKind.wrap_u64, e]

set_option maxRecDepth 100000 in
set_option maxHeartbeats 1600000 in
theorem padded_all (rest : List UInt8) (A : Option Addr) (cap : Nat) (w : World) (hl : Byt w (· < w.heap.size) rest A cap) (hr : rest.length ≤ 1000000) :
    Calls Tryd.prog 103 #[.slice A rest.length cap] w fun e w' => ∃ v, e = .returned v ∧ Own w' w.heap.size v (padend rest rest.length) ∧ Below w.heap.size w w' := by
  have HL := Lib.hid hl
  have HO0 := Lib.hid (own_row w #[] 0 rfl (Nat.zero_le _))
  have HS0 := Lib.hid (hl.keep (w' := w.alloc (.cells #[] 5)) (S' := (· < w.heap.size)) fun i hi => ⟨hi, Below.heap_alloc _ _ _ hi⟩)
  clear hl
  go_enter Tryd.func103, Tryd.ntmps103
  go_wp2_with (first
    | (at_builtin; refine app_byt rfl (.tmp 6) (.tmp 7) rfl w.heap.size _ _ _ _ [] rest rfl rfl HO0.out HS0.out (by simp; omega) (by simp) ?_; intro v2 w2 ho2 hg2; rw [List.nil_append] at ho2; obtain ⟨A2, c2, e2⟩ := ho2.slice; subst e2; have HO2 := Lib.hid (show Own (w2.alloc (.cells #[.int .u8 128] 5)) w.heap.size (.slice A2 rest.length c2) rest from World.ownsRow.alloc ho2 _); have HB2 := Lib.hid (below_own ((Below.refl w.heap.size w).alloc (Nat.le_refl _) _) hg2 HO0.out (Nat.le_refl _) (by simp)); have hz2 := HB2.out.size; clear ho2 hg2)
    | (at_builtin; refine app_byt rfl (.tmp 8) (.tmp 9) rfl w.heap.size _ _ _ _ rest [0x80] rfl rfl HO2.out (byt_one w2 0x80 128 rfl) (by simp; omega) (by simp; omega) ?_; intro v3 w3 ho3 hg3; obtain ⟨A3, c3, e3⟩ := ho3.slice; subst e3; have HO3 := Lib.hid ho3; have HB3 := Lib.hid (below_own (HB2.out.alloc hz2 _) hg3 HO2.out (Nat.le_refl _) (by simp; omega)); clear ho3 hg3))
  have hbd := kpad_bd rest.length
  go_loopw [3] (fun x wr => ∃ (k : Nat) (L : List UInt8) (A4 : Option Addr) (c4 : Nat), x = .slice A4 L.length c4 ∧ L.length = rest.length + 1 + k ∧ L = rest ++ [0x80] ++ List.replicate k 0 ∧ k ≤ kpad rest.length ∧ Own wr w.heap.size (.slice A4 L.length c4) L ∧ Below w.heap.size w wr) (fun x _ => 2000000 - slen x)
  case atStart => exact ⟨0, rest ++ [0x80], A3, c3, by simp, by simp, by simp, by omega, HO3.out, HB3.out⟩
  case round =>
    obtain ⟨k, L, A4, c4, rfl, hlen, hL, hk, ho, hb⟩ := hrel
    have HL4 := Lib.hid hL
    have HLEN := Lib.hid hlen
    have HO := Lib.hid ho
    have HB := Lib.hid hb
    have hz := hb.size
    by_cases hlt : k < kpad rest.length
    · have hne := kpad_lt _ _ hlt
      rw [← hlen] at hne
      have hne' : ((L.length : Int) % 64 != 56) = true := by
        have : ¬ ((L.length : Int) % 64 = 56) := by omega
        simpa using this
      have HOA := Lib.hid (show Own (wr.alloc (.cells #[.int .u8 0] 5)) w.heap.size (.slice A4 L.length c4) L from World.ownsRow.alloc ho _)
      have hbdl : L.length ≤ 1500000 := by omega
      clear ho hb hL hlen hne
      go_wp2_with (at_builtin; refine app_byt rfl (.tmp 15) (.tmp 16) rfl w.heap.size _ _ _ _ L [0] rfl rfl HOA.out (byt_one wr 0 0 rfl) (by simp; omega) (by simp; omega) ?_; intro v5 w5 ho5 hg5; obtain ⟨A5, c5, e5⟩ := ho5.slice; subst e5; have HO5 := Lib.hid ho5; have HB5 := Lib.hid (below_own (HB.out.alloc hz _) hg5 HOA.out (Nat.le_refl _) (by simp; omega)); clear ho5 hg5)
      go_roundw
      case rel =>
        refine ⟨k + 1, L ++ [0], A5, c5, by simp, by simp [HLEN.out]; omega, ?_, by omega, HO5.out, HB5.out⟩
        rw [HL4.out, List.replicate_succ', ← List.append_assoc]
      case measure => simp [slen]; omega
    · obtain rfl : k = kpad rest.length := by omega
      have he := kpad_eq rest.length
      rw [← hlen] at he
      have hne' : ((L.length : Int) % 64 != 56) = false := by
        have : ((L.length : Int) % 64 = 56) := by omega
        simp [this]
      have hbdl : L.length ≤ 1500000 := by omega
      clear ho hb hL hlen he
      go_wp2_with fail
      go_loopw [3, 5] (fun x i wr => ∃ (j : Nat) (M : List UInt8) (A6 : Option Addr) (c6 : Nat), x = .slice A6 M.length c6 ∧ i = .int .i64 (7 - (j : Int)) ∧ j ≤ 8 ∧ M.length = L.length + j ∧ M = L ++ cbs rest.length j ∧ Own wr w.heap.size (.slice A6 M.length c6) M ∧ Below w.heap.size w wr) (fun _ i _ => (intOf i + 1).toNat)
      case atStart => exact ⟨0, L, A4, c4, rfl, rfl, by omega, rfl, by simp [cbs], HO.out, HB.out⟩
      case round =>
        obtain ⟨j, M, A6, c6, rfl, rfl, hj, hlen, hM, ho, hb⟩ := hrel
        have HM := Lib.hid hM
        have HLEN6 := Lib.hid hlen
        have HO6 := Lib.hid ho
        have HB6 := Lib.hid hb
        have hz6 := hb.size
        have hbd6 : M.length ≤ 1600000 := by omega
        by_cases hlt : j < 8
        · have hsh : (0 : Int) ≤ 8 * (7 - (j : Int)) := by omega
          have hge : (0 : Int) ≤ 7 - (j : Int) := by omega
          have HOA := Lib.hid (show Own (wr.alloc (.cells #[.int .u8 ((rest.length : Int) * 8 / 2 ^ (8 * (7 - j)) % 256)] 5)) w.heap.size (.slice A6 M.length c6) M from World.ownsRow.alloc ho _)
          have HBO := Lib.hid (byt_one wr (cby rest.length j) _ (cby_eq2 rest.length j hr hlt))
          clear ho hb hM hlen
          go_wp2_with (at_builtin; refine app_byt rfl (.tmp 26) (.tmp 32) rfl w.heap.size _ _ _ _ M [cby rest.length j] rfl rfl HOA.out HBO.out (by simp; omega) (by simp; omega) ?_; intro v5 w5 ho5 hg5; obtain ⟨A5, c5, e5⟩ := ho5.slice; subst e5; have HO5 := Lib.hid ho5; have HB5 := Lib.hid (below_own (HB6.out.alloc hz6 _) hg5 HOA.out (Nat.le_refl _) (by simp; omega)); clear ho5 hg5)
          go_roundw
          case rel =>
            refine ⟨j + 1, M ++ [cby rest.length j], A5, c5, by simp, congrArg (Value.int IntKind.i64) (by omega), by omega, by simp [HLEN6.out]; omega, ?_, HO5.out, HB5.out⟩
            rw [cbs_succ, HM.out, List.append_assoc]
          case measure => simp [intOf]; omega
        · obtain rfl : j = 8 := by omega
          clear ho hb hM hlen
          go_wp2_with fail
          go_ret
          refine ⟨_, rfl, ?_, HB6.out⟩
          have h := HO6.out
          rw [HM.out] at h
          rw [padend, ← HL4.out]
          rw [HM.out]
          exact h
end
section
set_option maxRecDepth 100000
open Go.RowKit

/-- the store of a row of eight words, as a region's walk meets it -/
theorem st_row8 (w : World) (g : Nat) (t : TypeId) (l l' : List UInt32) (h : Row w g t l) (hl : l.length = 8) (hl' : l'.length = 8) :
    (storeVar 108 ⟨g, 0, none⟩ (.agg (R32 l').toArray)).run Tryd.prog w = .ok () (w.setRow g (R32 l').toArray) ∧
    (storeCells ⟨g, 0, none⟩ (R32 l') 0).run Tryd.prog w = .ok () (w.setRow g (R32 l').toArray) := by
  have h1 := run_storeVar_row (P := Tryd.prog) w g t 108 _ (R32 l').toArray h (by rw [sz8', R32_size, hl']) (by rw [R32_size, R32_size, hl, hl']) (R32_one l')
  refine ⟨h1, ?_⟩
  cases hq : Tryd.prog.info? 108 with
  | none =>
    have := sz8'
    rw [hq] at this
    cases this
  | some i =>
    have hs : i.size = 8 := by
      have := sz8'
      rw [hq] at this
      simpa using this
    have hu : (R32 l').length = 8 := by rw [R32_len, hl']
    simpa [storeVar, sizeOf, typeInfo, hq, Value.cells, hs, hu] using h1

theorem dby_eq2 (l : List UInt32) (t : Nat) : I (gw l (t / 4)) / 2 ^ (24 - 8 * (t % 4)) % 256 = ((dby l t).toNat : Int) := by
  rw [Nat.mul_comm]; exact dby_eq l t

theorem Byt.sub {w : World} {S : Nat → Prop} {l : List UInt8} {b o cap : Nat} (h : Byt w S l (some ⟨b, o, none⟩) cap) (k : Nat) : Byt w S ((l.drop k).take 64) (some ⟨b, o + k, none⟩) (cap - k) :=
  (h.drop k).take 64

set_option maxRecDepth 100000 in
set_option maxHeartbeats 3200000 in
theorem rsum_all (l : List UInt8) (A : Option Addr) (cap : Nat) (w : World) (hl : Byt w (· < w.heap.size) l A cap) (hn : l.length ≤ 1000000) :
    Calls Tryd.prog 77 #[.slice A l.length cap] w fun e w' => e = .returned (.agg (U (sha l)).toArray) ∧ Below w.heap.size w w' := by
  have HL := Lib.hid hl
  obtain ⟨h0, h1, hb1, hz1⟩ := box2 w (U (flb 32 [])).toArray (R32 (fl 8 [])).toArray 23 108 _ rfl
  have r1 : Row _ (w.heap.size + 1) 108 (fl 8 []) := h1
  have r1' := r1.setRow iv.l
  have r0 : RowB (((w.alloc (.cells (U (flb 32 [])).toArray 23)).alloc (.cells (R32 (fl 8 [])).toArray 108)).setRow (w.heap.size + 1) (R32 iv.l).toArray) w.heap.size 23 (flb 32 []) := (setRow_other _ _ _ _ (by omega)).trans h0
  have hb2 : Below w.heap.size w (((w.alloc (.cells (U (flb 32 [])).toArray 23)).alloc (.cells (R32 (fl 8 [])).toArray 108)).setRow (w.heap.size + 1) (R32 iv.l).toArray) := below_setRow hb1 (by omega) _
  have hz2 : (((w.alloc (.cells (U (flb 32 [])).toArray 23)).alloc (.cells (R32 (fl 8 [])).toArray 108)).setRow (w.heap.size + 1) (R32 iv.l).toArray).heap.size = w.heap.size + 2 := by rw [setRow_size]; exact hz1
  have R0 := Lib.hid r0
  have R1 := Lib.hid r1'
  have HB2 := Lib.hid hb2
  have HZ2 := Lib.hid hz2
  clear hl h0 h1 hb1 hz1 r1' r0 hb2 hz2
  go_enter Tryd.func77, Tryd.ntmps77
  go_wp2_with (refine store_R rfl 108 (.tmp 3) (.tmp 8) rfl (w.heap.size + 1) (fl 8 []) iv.l rfl rfl 108 8 r1 sz8' rfl rfl ?_)
  generalize hg2 : ((w.alloc _).alloc _).setRow _ _ = W2
  have r0 : RowB W2 w.heap.size 23 (flb 32 []) := by rw [← hg2]; exact R0.out
  have rs : Row W2 (w.heap.size + 1) 108 iv.l := by rw [← hg2]; exact R1.out
  have hb2 : Below w.heap.size w W2 := by rw [← hg2]; exact HB2.out
  have hz2 : W2.heap.size = w.heap.size + 2 := by rw [← hg2]; exact HZ2.out
  clear hg2 R0 R1 HB2 HZ2 r1
  refine (padded_all l A cap W2 (HL.out.keep fun i hi => ⟨by omega, hb2.block i hi⟩) hn).mono ?_
  rintro e w3 ⟨v, rfl, ho, hb⟩
  obtain ⟨A3, c3, rfl, hy⟩ := ho.byt
  have hz3 := hb.size
  have R0 := Lib.hid (r0.keep (hb.block _ (by omega)))
  have RS := Lib.hid (rs.keep (hb.block _ (by omega)))
  have HB3 := Lib.hid (hb2.trans (hb.mono (by omega)))
  obtain ⟨P, hP⟩ : ∃ P, P = padend l l.length := ⟨_, rfl⟩
  rw [← hP] at hy
  rw [← hP]
  have HY := Lib.hid hy
  have HFE := Lib.hid (show dbs (foldb iv P (P.length / 64)).l 32 = sha l by rw [hP, fold_all]; rfl)
  have hpm : P.length = P.length / 64 * 64 := by
    have h := kpad_eq l.length
    rw [hP, padend_len]
    omega
  have HPM := Lib.hid hpm
  have hpl : P.length ≤ 2000000 := by
    have h := kpad_bd l.length
    rw [hP, padend_len]
    omega
  clear hP ho hb hb2 r0 rs hy hpm
  go_wp2_with fail
  go_loopw [5] (fun x wr => ∃ n k : Nat, k = n * 64 ∧ x = .int .i64 k ∧ n ≤ P.length / 64 ∧ Row wr (w.heap.size + 1) 108 (foldb iv P n).l ∧ w3.grownBy wr (some (w.heap.size + 1))) (fun x _ => P.length - (intOf x).toNat)
  case atStart => exact ⟨0, 0, rfl, rfl, by omega, RS.out, grownBy_refl _ _⟩
  case round =>
    obtain ⟨n, k, hkn, rfl, hn2, hrow, hg⟩ := hrel
    have hpm := HPM.out
    have HKN := Lib.hid hkn
    have HROW := Lib.hid hrow
    have HG := Lib.hid hg
    by_cases hlt : n < P.length / 64
    · have hkl : k + 64 ≤ P.length := by omega
      obtain ⟨g, o, rfl, hS, _⟩ := HY.out.2.2.2 (by omega)
      have hcp := HY.out.1
      have hgz := hg.size
      have hby : Byt wr (· < wr.heap.size) ((P.drop k).take 64) (some ⟨g, o + k, none⟩) (c3 - k) :=
        (HY.out.keep (S' := (· < wr.heap.size)) fun i hi => ⟨by omega, hg.block i hi.2 (by intro e; injection e with e; omega)⟩).sub k
      obtain ⟨s, hs⟩ : ∃ s, s = foldb iv P n := ⟨_, rfl⟩
      rw [← hs] at hrow
      have hcl : ((P.drop k).take 64).length = 64 := by rw [List.length_take, List.length_drop]; omega
      have C := Lib.hid (show Calls Tryd.prog 104 #[.agg #[.int .u32 (I s.a), .int .u32 (I s.b), .int .u32 (I s.c), .int .u32 (I s.d), .int .u32 (I s.e), .int .u32 (I s.f), .int .u32 (I s.g), .int .u32 (I s.h)], .slice (some ⟨g, o + k, none⟩) 64 (c3 - k)] wr.drew
          fun e w' => e = .returned (.agg (R32 (comp s (wds ((P.drop k).take 64) 16)).l).toArray) ∧ Below wr.drew.heap.size wr.drew w' from rblock_all s ((P.drop k).take 64) g (o + k) (c3 - k) wr.drew hcl hby)
      have hfs : (comp s (wds ((P.drop k).take 64) 16)) = foldb iv P (n + 1) := by
        rw [foldb, ← hs, ← hkn, wds_congr ((P.drop k).take 64) (P.drop k) fun i hi => by_take _ _ _ hi]
      rw [hfs] at C
      have d0 := hrow.cell (i := 0) (x := s.a) rfl
      have d1 := hrow.cell (i := 1) (x := s.b) rfl
      have d2 := hrow.cell (i := 2) (x := s.c) rfl
      have d3 := hrow.cell (i := 3) (x := s.d) rfl
      have d4 := hrow.cell (i := 4) (x := s.e) rfl
      have d5 := hrow.cell (i := 5) (x := s.f) rfl
      have d6 := hrow.cell (i := 6) (x := s.g) rfl
      have d7 := hrow.cell (i := 7) (x := s.h) rfl
      have e1 : IntKind.i64.wrap ((k : Int) + 64) = k + 64 := IntWalk.i64_in _ (by omega)
      have q1 : (k : Int) + 64 ≤ c3 := by omega
      have q2 : (k : Int) ≤ k + 64 := by omega
      have q3 : (0 : Int) ≤ (k : Int) + 64 := by omega
      have q4 : ((k : Int) + 64).toNat = k + 64 := by omega
      have q5 : k + 64 ≤ c3 := by omega
      have q6 : k ≤ k + 64 := by omega
      have q7 : k + 64 - k = 64 := by omega
      have q8 : k < c3 := by omega
      have q9 : ¬ c3 = k := by omega
      have hul : (R32 (foldb iv P (n + 1)).l).length = 8 := rfl
      have HS := Lib.hid hs
      have HROW := Lib.hid hrow
      clear hrow hg hpm hkn hS hby hs hcl hfs
      go_wp2_with fail
      go_region_law
        (go_simp; go_at_call 104; (with_reducible refine C.out.mono ?_); rintro e w5 ⟨rfl, hb5⟩; have hr5 := HROW.out.keep (hb5.block _ HROW.out.lt); obtain ⟨hst1, hst2⟩ := st_row8 w5 _ _ _ (foldb iv P (n + 1)).l hr5 rfl rfl; have HR5 := Lib.hid hr5; have HB5 := Lib.hid hb5; clear hr5 hb5)
      all_goals
        have hr6 := HR5.out.setRow (foldb iv P (n + 1)).l
        clear hst1 hst2
        go_wp2_with fail
        go_roundw
        case rel =>
          have hz5 := HB5.out.size
          have hgz := HG.out.size
          refine ⟨n + 1, k + 64, by rw [HKN.out]; omega, rfl, by omega, hr6, ?_⟩
          have hg5 := below_grownBy (show w3.grownBy wr.drew (some (w.heap.size + 1)) from ⟨HG.out.os, HG.out.tape, HG.out.output, HG.out.size, HG.out.block⟩) HB5.out
          exact ⟨hg5.os, hg5.tape, hg5.output, by rw [setRow_size]; exact hg5.size, fun i hi hne => (setRow_other _ _ _ _ (by intro e; exact hne (by rw [e]))).trans (hg5.block i hi hne)⟩
        case measure => simp [intOf]; omega
    · obtain rfl : n = P.length / 64 := by omega
      have hkl : k = P.length := by omega
      have hrs := hrow
      have hbw : Below w.heap.size w wr := below_of_grown HB3.out hg (by omega) (by omega)
      have hr0 := R0.out.keep (hg.block _ (by omega) (by intro e; injection e with e; omega))
      obtain ⟨S, hS⟩ : ∃ S, S = foldb iv P (P.length / 64) := ⟨_, rfl⟩
      rw [← hS] at hrs HFE
      have hzr := hg.size
      have nz : RowB (wr.alloc (.cells (U (flb 32 [])).toArray 23)) wr.heap.size 23 (flb 32 []) := heap_alloc_new wr _
      have hb4 : Below wr.heap.size wr (wr.alloc (.cells (U (flb 32 [])).toArray 23)) := (Below.refl _ _).alloc (Nat.le_refl _) _
      have NZ := Lib.hid nz
      have HB4 := Lib.hid hb4
      have HRS := Lib.hid hrs
      have HR0 := Lib.hid hr0
      have HBW := Lib.hid hbw
      have hf : ¬ (k : Int) < P.length := by omega
      clear hrow hg hpm hkn hrs hbw hr0 hS hb4 hkl
      go_wp2_with (refine store_BS rfl (.tmp 6) (.tmp 24) rfl wr.heap.size (flb 32 []) rfl rfl 23 nz (by simp [flb]) ?_)
      generalize hg4 : wr.alloc _ = W4
      have n4 : RowB W4 wr.heap.size 23 (flb 32 []) := by rw [← hg4]; exact NZ.out
      have hb4 : Below wr.heap.size wr W4 := by rw [← hg4]; exact HB4.out
      clear hg4 NZ HB4 nz
      have hlt0 := HR0.out.lt
      have hlts := HRS.out.lt
      have h4z := hb4.size
      have HS4 := Lib.hid (HRS.out.keep (hb4.block _ hlts))
      have HR4 := Lib.hid (HR0.out.keep (hb4.block _ hlt0))
      have HBW4 := Lib.hid (HBW.out.trans (hb4.mono (by omega)))
      have HN4 := Lib.hid n4
      obtain ⟨W5, hW5⟩ : ∃ W5, W5 = wr := ⟨_, rfl⟩
      subst hW5
      clear n4 hb4 HRS HR0 HBW HB3 RS R0
      go_loopw [7] (fun x wx => ∃ t : Nat, x = .int .i64 t ∧ t ≤ 32 ∧ RowB wx W5.heap.size 23 (flb 32 (dbs S.l t)) ∧ Row wx (w.heap.size + 1) 108 S.l ∧ RowB wx w.heap.size 23 (flb 32 []) ∧ Below w.heap.size w wx) (fun x _ => 32 - (intOf x).toNat)
      case atStart => exact ⟨0, rfl, by omega, HN4.out, HS4.out, HR4.out, HBW4.out⟩
      case round =>
        obtain ⟨t, rfl, ht, hrow, hsr, hr0, hbl⟩ := hrel
        by_cases hlt2 : t < 32
        · have hc := hsr.cell (gw_get S.l (t / 4) (by show t / 4 < 8; omega))
          have h0 := flb_next 32 (dbs S.l t) (by rw [dbs_len]; exact hlt2)
          rw [dbs_len] at h0
          have hc2 := hrow.cell h0
          have hf2 := hrow.frozen t
          have HROW := Lib.hid hrow
          have HSR := Lib.hid hsr
          have HZR := Lib.hid hr0
          have HBL := Lib.hid hbl
          clear hrow hsr hr0 hbl h0
          have b1 : (t : Int) < 32 := by omega
          go_wp2_with fail
          go_roundw
          case rel =>
            refine ⟨t + 1, rfl, by omega, ?_, HSR.out.keep (((Below.refl W5.heap.size wr).setCell (p := ⟨W5.heap.size, t, none⟩) (Nat.le_refl _) _).block _ (by omega)), HZR.out.keep (((Below.refl W5.heap.size wr).setCell (p := ⟨W5.heap.size, t, none⟩) (Nat.le_refl _) _).block _ (by omega)), HBL.out.setCell (show w.heap.size ≤ W5.heap.size by omega) _⟩
            have h := RowB.next HROW.out (by rw [dbs_len]; exact hlt2) (dby S.l t)
            rw [dbs_len, ← dbs_succ] at h
            rw [dby_eq2]
            exact h
          case measure => simp [intOf]; omega
        · obtain rfl : t = 32 := by omega
          have hfin : RowB wr W5.heap.size 23 (dbs S.l 32) := by rw [flb_full _ _ (dbs_len _ 32)] at hrow; exact hrow
          have hr1 := hr0.setRow (dbs S.l 32)
          have HBL := Lib.hid hbl
          have HR1 := Lib.hid hr1
          clear hrow hbl hr1 hsr
          go_wp2_with (first | (refine load_B rfl (.tmp 6) rfl W5.heap.size rfl 23 (dbs S.l 32) hfin (dbs_len _ 32) ?_) | (refine store_B rfl (.tmp 2) (.tmp 41) rfl w.heap.size (flb 32 []) (dbs S.l 32) rfl rfl 23 hr0 (dbs_len _ 32) (by simp [flb]) ?_))
          rw [← HFE.out]
          exact bodyPost_ret (res_B rfl _ _ _ _ _ rfl HR1.out (dbs_len _ 32)) rfl ⟨rfl, below_setRow HBL.out (Nat.le_refl _) _⟩
end
section
set_option maxRecDepth 100000
open Go.RowKit

theorem RowB.byt32 {w : World} {b : Nat} {t : TypeId} {l : List UInt8} (h : RowB w b t l) (hl : l.length = 32) : Byt w (fun i => i = b) l (some ⟨b, 0, none⟩) 32 := by
  have := h.byt (by rw [hl]; decide)
  rwa [hl] at this

set_option maxRecDepth 100000 in
set_option maxHeartbeats 1600000 in
theorem rtagged_all (s : ByteArray) (l : List UInt8) (A : Option Addr) (cap : Nat) (w : World) (hs : s.size ≤ 900000) (hn : l.length ≤ 900000) (hl : Byt w (· < w.heap.size) l A cap) :
    Calls Tryd.prog 43 #[.string s, .slice A l.length cap] w fun e w' => e = .returned (.agg (U (tagd s.data.toList l)).toArray) ∧ Below w.heap.size w w' := by
  have HL := Lib.hid hl
  have hconv := fun (w : World) (s : ByteArray) => Lib.run_convert_string_bytes (P := Tryd.prog) w 9 62 5 s Tryd.underlying9 Tryd.underlying62 Tryd.underlying5
  have hz : RowB (w.alloc (.cells (U (flb 32 [])).toArray 23)) w.heap.size 23 (flb 32 []) := heap_alloc_new w _
  have HZ := Lib.hid hz
  clear hl hz
  go_enter Tryd.func43, Tryd.ntmps43
  go_wp2_with fail
  have hgen : ∀ W1, w.alloc (.cells (U (flb 32 [])).toArray 23) = W1 → RowB W1 w.heap.size 23 (flb 32 []) ∧ Below w.heap.size w W1 ∧ W1.heap.size = w.heap.size + 1 := by
    rintro W1 rfl
    exact ⟨HZ.out, (Below.refl _ _).alloc (Nat.le_refl _) _, by simp⟩
  generalize hW1 : w.alloc _ = W1
  obtain ⟨hd1, hb1, hz1⟩ := hgen W1 hW1
  clear hgen hW1
  have hsl : s.data.toList.length = s.size := by simp
  have hbc := below_conv W1 s
  have hzc := Lib.bytesWorld_size W1 5 s
  have C := rsum_all s.data.toList _ _ (Lib.bytesWorld W1 5 s) ((byt_conv W1 s (by simp only [maxLen]; omega)).keep fun i hi => ⟨by rw [hzc]; exact hi, rfl⟩) (by omega)
  rw [hsl, hz1] at C
  refine C.mono ?_
  rintro e w2 ⟨rfl, hb⟩
  have hb12 : Below W1.heap.size W1 w2 := hbc.trans (hb.mono (by omega))
  have hz2 : w.heap.size + 2 ≤ w2.heap.size := by have := hb.size; omega
  have HB2 := Lib.hid (hb1.trans (hb12.mono (by omega)))
  have HD2 := Lib.hid (hd1.keep (hb12.block _ (by omega)))
  have hn1 : RowB (w2.alloc (.cells (U (flb 32 [])).toArray 23)) w2.heap.size 23 (flb 32 []) := heap_alloc_new w2 _
  have hn2 := hn1.setRow (sha s.data.toList)
  have hb23 : Below w2.heap.size w2 ((w2.alloc (.cells (U (flb 32 [])).toArray 23)).setRow w2.heap.size (U (sha s.data.toList)).toArray) := below_setRow ((Below.refl _ _).alloc (Nat.le_refl _) _) (Nat.le_refl _) _
  have HN2 := Lib.hid hn2
  have HB23 := Lib.hid hb23
  clear hd1 hb1 hsl hbc hzc C hb hb12 hn2 hb23
  have hz3' : ((w2.alloc (.cells (U (flb 32 [])).toArray 23)).setRow w2.heap.size (U (sha s.data.toList)).toArray).heap.size = w2.heap.size + 1 := by simp [setRow_size]
  have HZ3 := Lib.hid hz3'
  clear hz3'
  go_wp2_with (first
    | (refine store_B rfl (.tmp 5) (.tmp 8) rfl w2.heap.size (flb 32 []) (sha s.data.toList) rfl rfl 23 hn1 (sha_len _) (by simp [flb]) ?_
       generalize hW3 : (w2.alloc _).setRow _ _ = W3
       have hn3 : RowB W3 w2.heap.size 23 (sha s.data.toList) := by rw [← hW3]; exact HN2.out
       have hb3 : Below w2.heap.size w2 W3 := by rw [← hW3]; exact HB23.out
       have hz3 : W3.heap.size = w2.heap.size + 1 := by rw [← hW3]; exact HZ3.out
       clear hW3 HN2 HB23 HZ3 hn1
       have hlen := sha_len s.data.toList
       have HLEN := Lib.hid hlen
       have HO3 := Lib.hid (own_row W3 #[] 0 rfl (Nat.zero_le _))
       have HS3 := Lib.hid ((hn3.byt32 hlen).keep (w' := W3.alloc (.cells #[] 5)) (S' := (· < W3.heap.size)) fun i hi => ⟨by omega, Below.heap_alloc _ _ _ (by omega)⟩)
       have HB3 := Lib.hid hb3
       have hlw : w.heap.size < w2.heap.size := by omega
       clear hn3 hb3 hlen)
    | (at_builtin; refine app_byt rfl (.tmp 9) (.tmp 10) rfl W3.heap.size _ _ _ _ [] (sha s.data.toList) (by rw [hz3]; rfl) (by rw [HLEN.out]; rfl) HO3.out HS3.out (by rw [HLEN.out]; simp) (by simp) ?_; intro v4 w4 ho4 hg4; rw [List.nil_append] at ho4; obtain ⟨A4, c4, e4⟩ := ho4.slice; subst e4; have hb4 := below_own ((Below.refl W3.heap.size W3).alloc (Nat.le_refl _) _) hg4 HO3.out (Nat.le_refl _) (by simp); have HB4 := Lib.hid hb4; have HO4 := Lib.hid ho4; have hz4 := hb4.size; have HL4 := Lib.hid (HL.out.keep (S' := (· < w.heap.size)) fun i hi => ⟨hi, (hb4.block i (by omega)).trans ((HB3.out.block i (by omega)).trans (HB2.out.block i hi))⟩); clear ho4 hg4 hb4)
    | (at_builtin; refine app_byt rfl (.tmp 11) (.tmp 12) rfl W3.heap.size _ _ _ _ (sha s.data.toList) l rfl rfl HO4.out HL4.out (by rw [HLEN.out]; omega) hz4 ?_; intro v5 w5 ho5 hg5; obtain ⟨A5, c5, e5, hy5⟩ := ho5.byt; subst e5; have HB5 := Lib.hid (below_own HB4.out hg5 HO4.out (Nat.le_refl _) hz4); have HY5 := Lib.hid hy5; clear ho5 hg5 hy5))
  have hz5 := HB5.out.size
  have hb25 : Below w2.heap.size w2 w5 := HB3.out.trans (HB5.out.mono (by omega))
  have hb5 : Below w.heap.size w w5 := HB2.out.trans (hb25.mono (by omega))
  have hd5 := HD2.out.keep (hb25.block _ hlw)
  have C := rsum_all (sha s.data.toList ++ l) A5 c5 w5 (HY5.out.keep fun i hi => ⟨hi.2, rfl⟩) (by rw [List.length_append, HLEN.out]; omega)
  rw [List.length_append] at C
  refine C.mono ?_
  rintro e w6 ⟨rfl, hb6⟩
  have HB6 := Lib.hid (hb5.trans (hb6.mono (by omega)))
  have hd6 := hd5.keep (hb6.block _ (by omega))
  have hr6 := hd6.setRow (sha (sha s.data.toList ++ l))
  clear hb25 hb5 hd5 C hb6
  go_wp2_with (refine store_B rfl (.tmp 4) (.tmp 14) rfl w.heap.size (flb 32 []) (sha (sha s.data.toList ++ l)) rfl rfl 23 hd6 (sha_len _) (by simp [flb]) ?_)
  exact bodyPost_ret (res_B rfl _ _ _ _ _ rfl hr6 (sha_len _)) rfl ⟨rfl, below_setRow HB6.out (Nat.le_refl _) _⟩
end
end Go.Proofs.YteicbdjennjcdaaDoor
