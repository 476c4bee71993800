/- Digest: DigestSumSpec. -/
import Derived.Test.YtidmhnaecpbdeaaDoorJE
import Derived.Test.YtidmhnaecpbdeaaDoorHP
namespace Go.Proofs.YtidmhnaecpbdeaaDoor
open Go.ChangeShapes Go.WideShapes Go.ChangeAt Go.WideElems Go.RowKit

theorem made_u8 (n : Nat) : madeCells (Value.int .u8 0).cells n = (U (List.replicate n 0)).toArray := by
  apply Array.ext
  · simp [madeCells, U]
  · intro i h1 h2
    simp [madeCells, U, Value.cells, Nat.mod_one]
theorem run_mk (m : Nat) (hm : m < 256) (w : World) : (Instr.makeSlice 22 (.int .i64 ((m : Int) + 1)) (.int .i64 ((m : Int) + 1))).run Tryd.prog w = .ok (.slice (some ⟨w.heap.size, 0, none⟩) (m + 1) (m + 1)) (w.alloc (.cells (U (List.replicate (m + 1) 0)).toArray 5)) := by
  obtain ⟨i, hi, hz0, hz1, hz2⟩ := info_parts info_u8
  have := run_makeSlice (P := Tryd.prog) (w := w) 22 5 i (.int .u8 0) Tryd.underlying22 hi hz0 .i64 .i64 ((m : Int) + 1) ((m : Int) + 1) (by omega) (Int.le_refl _) (by rw [hz1]; omega) (by rw [hz2]; omega) (by omega)
  rw [hz1, show ((m : Int) + 1).toNat = m + 1 by omega, Nat.mul_one, made_u8] at this
  exact this

set_option maxRecDepth 100000 in
set_option maxHeartbeats 3200000 in
theorem sumspec_all (l : List UInt8) (A : Option Addr) (cap : Nat) (s : ByteArray) (m : Nat) (hm : m < 256) (w : World) (hl : Byt w (· < w.heap.size) l A cap) (hk : KR w Kt) :
    Calls Tryd.prog 3 #[.slice A l.length cap, .string s, .int .u8 m] w fun e w' => e = .returned (.bool true) ∧ Below w.heap.size w w' := by
  have HL := Lib.hid hl
  have HK := Lib.hid hk
  have hlt0 := hk.lt
  have S0 := Lib.hid (sane_all w hk)
  clear hl hk
  by_cases hn : 300 < l.length
  · go_enter Tryd.func3, Tryd.ntmps3
    go_wp2_with fail
    refine S0.out.mono ?_
    rintro e w1 ⟨rfl, hb⟩
    go_wp2_with fail
    go_ret
    exact ⟨rfl, hb⟩
  by_cases hs : 300 < s.size
  · go_enter Tryd.func3, Tryd.ntmps3
    go_wp2_with fail
    refine S0.out.mono ?_
    rintro e w1 ⟨rfl, hb⟩
    go_wp2_with fail
    go_ret
    exact ⟨rfl, hb⟩
  go_enter Tryd.func3, Tryd.ntmps3
  go_wp2_with fail
  refine S0.out.mono ?_
  rintro e w1 ⟨rfl, hb1⟩
  have hz1 := hb1.size
  have hmk := run_mk m hm
  have e0 : IntKind.i64.wrap (m : Int) = m := IntWalk.i64_in _ (by omega)
  have e1 : IntKind.i64.wrap ((m : Int) + 1) = m + 1 := IntWalk.i64_in _ (by omega)
  have n1 : RowB (w1.alloc (.cells (U (List.replicate (m + 1) 0)).toArray 5)) w1.heap.size 5 (List.replicate (m + 1) 0) := heap_alloc_new w1 _
  have N1 := Lib.hid n1
  have HB1 := Lib.hid (hb1.alloc hz1 (.cells (U (List.replicate (m + 1) 0)).toArray 5))
  clear n1 hb1
  go_wp2_with fail
  go_loopw [27] (fun x wr => ∃ (k : Nat) (L : List UInt8), x = .int .i64 k ∧ k ≤ m + 1 ∧ L.length = m + 1 ∧ RowB wr w1.heap.size 5 L ∧ Below w.heap.size w wr) (fun x _ => m + 1 - (intOf x).toNat)
  case atStart => exact ⟨0, _, rfl, by omega, by simp, N1.out, HB1.out⟩
  case round =>
    obtain ⟨k, L, rfl, hk1, hL, hrow, hbl⟩ := hrel
    have HROW := Lib.hid hrow
    have HBL := Lib.hid hbl
    by_cases hlt : k < m + 1
    · have h8 : (((UInt8.ofNat k).toNat : Nat) : Int) = (k : Int) := by rw [UInt8.toNat_ofNat']; omega
      obtain ⟨z0, hz0⟩ : ∃ z, L[k]? = some z := ⟨_, List.getElem?_eq_getElem (by omega)⟩
      have hc0 := hrow.cell hz0
      have hf0 := hrow.frozen k
      have hrow2 := hrow.set k (UInt8.ofNat k)
      rw [h8] at hrow2
      have hc2 := hrow2.cell (i := k) (x := UInt8.ofNat k) (by rw [List.getElem?_set_self (by omega)])
      rw [h8] at hc2
      have hf2 := hrow2.frozen k
      have hbl2 := hbl.setCell (p := ⟨w1.heap.size, k, none⟩) hz1 (.int .u8 (k : Int))
      have HROW2 := Lib.hid hrow2
      have HBL2 := Lib.hid hbl2
      have b1 : (k : Int) < (m : Int) + 1 := by omega
      clear hrow hbl hrow2 hbl2 hz0 h8
      by_cases hp : 0 < l.length
      · obtain ⟨g, o, rfl, hgl, hcl⟩ := (HL.out.keep (S' := (· < w.heap.size)) fun i hi => ⟨hi, HBL2.out.block i hi⟩).2.2.2 hp
        obtain ⟨y, hy⟩ : ∃ y, l[k % l.length]? = some y := ⟨_, List.getElem?_eq_getElem (Nat.mod_lt _ hp)⟩
        have hcx := hcl (k % l.length) (.int .u8 y.toNat) (by rw [U_get, hy]; rfl)
        have b2 : (0 : Int) < l.length := by omega
        have b3 : (k : Int) % (l.length : Int) < l.length := Int.emod_lt_of_pos _ b2
        have b4 : (0 : Int) ≤ (k : Int) % (l.length : Int) := Int.emod_nonneg _ (by omega)
        have b5 : k % l.length < l.length := Nat.mod_lt _ hp
        have b6 : ((k : Int) % (l.length : Int)).toNat = k % l.length := by rw [← Int.natCast_emod, Int.toNat_natCast]
        clear hcl hy
        go_wp2_with fail
        go_roundw
        case rel =>
          refine ⟨k + 1, _, rfl, by omega, ?_, HROW2.out.set k y, HBL2.out.setCell (p := ⟨w1.heap.size, k, none⟩) hz1 _⟩
          simp [hL]
        case measure => simp [intOf]; omega
      · have b2 : ¬ (0 : Int) < l.length := by omega
        go_wp2_with fail
        go_roundw
        case rel => exact ⟨k + 1, _, rfl, by omega, by simp [hL], HROW2.out, HBL2.out⟩
        case measure => simp [intOf]; omega
    · obtain rfl : k = m + 1 := by omega
      clear hrow hbl
      obtain ⟨W2, hW2⟩ : ∃ W2, W2 = wr := ⟨_, rfl⟩
      subst hW2
      have hz2 := HBL.out.size
      have hlt2 := HROW.out.lt
      obtain ⟨hq0, hb3⟩ : (W2.alloc (.cells #[.slice A l.length cap, .slice (some ⟨w1.heap.size, 0, none⟩) (m + 1) (m + 1)] 22)).heap[W2.heap.size]? = some (.cells #[.slice A l.length cap, .slice (some ⟨w1.heap.size, 0, none⟩) (m + 1) (m + 1)] 22 (0, 0)) ∧ Below W2.heap.size W2 (W2.alloc (.cells #[.slice A l.length cap, .slice (some ⟨w1.heap.size, 0, none⟩) (m + 1) (m + 1)] 22)) := ⟨heap_alloc_new W2 _, (Below.refl _ _).alloc (Nat.le_refl _) _⟩
      have Q3 := Lib.hid hq0
      have HB3 := Lib.hid (HBL.out.trans (hb3.mono hz2))
      have HR3 := Lib.hid (HROW.out.keep (hb3.block _ hlt2))
      clear hq0 hb3
      go_wp2_with fail
      generalize hW4 : W2.alloc _ = W4
      have hq4 : W4.heap[W2.heap.size]? = some (.cells #[.slice A l.length cap, .slice (some ⟨w1.heap.size, 0, none⟩) (m + 1) (m + 1)] 22 (0, 0)) := by rw [← hW4]; exact Q3.out
      have hb4 : Below w.heap.size w W4 := by rw [← hW4]; exact HB3.out
      have hr4 : RowB W4 w1.heap.size 5 L := by rw [← hW4]; exact HR3.out
      clear hW4 Q3 HB3 HR3 HROW HBL
      have Q4 := Lib.hid hq4
      have HB4 := Lib.hid hb4
      have HR4 := Lib.hid hr4
      clear hq4 hb4 hr4
      go_loopw [53] (fun x wx => ∃ j : Nat, x = .int .i64 j ∧ j ≤ 2 ∧ wx.heap[W2.heap.size]? = some (.cells #[.slice A l.length cap, .slice (some ⟨w1.heap.size, 0, none⟩) (m + 1) (m + 1)] 22 (0, 0)) ∧ RowB wx w1.heap.size 5 L ∧ Below w.heap.size w wx) (fun x _ => 2 - (intOf x).toNat)
      case atStart => exact ⟨0, rfl, by omega, Q4.out, HR4.out, HB4.out⟩
      case round =>
        obtain ⟨j, rfl, hj, hq, hr, hb⟩ := hrel
        by_cases hlt : j < 2
        · obtain ⟨l', A', c', hcell, hby, hln⟩ : ∃ (l' : List UInt8) (A' : Option Addr) (c' : Nat), wr.cell? ⟨W2.heap.size, j, none⟩ = some (.slice A' l'.length c') ∧ Byt wr (· < w1.heap.size + 1) l' A' c' ∧ l'.length ≤ 300 := by
            by_cases h0 : j = 0
            · subst h0
              refine ⟨l, A, cap, by rw [cell_of_row wr _ _ _ _ _ hq]; rfl, HL.out.keep fun i hi => ⟨by omega, hb.block i hi⟩, by omega⟩
            · obtain rfl : j = 1 := by omega
              refine ⟨L, some ⟨w1.heap.size, 0, none⟩, m + 1, by rw [cell_of_row wr _ _ _ _ _ hq, hL]; rfl, ?_, by omega⟩
              have := hr.byt (by rw [hL]; simp only [maxLen]; omega)
              rw [hL] at this
              exact this.keep fun i hi => ⟨by omega, rfl⟩
          have hkr := HK.out.keep (hb.block 0 hlt0)
          have hlt1 := hr.lt
          have hltq : W2.heap.size < wr.heap.size := (Array.getElem?_eq_some_iff.1 hq).1
          have hsz := hb.size
          have KEEP := Lib.hid (show ∀ w', Below wr.heap.size wr w' → Byt w' (· < w'.heap.size) l' A' c' ∧ KR w' Kt ∧ (w'.heap[W2.heap.size]? = some (.cells #[.slice A l.length cap, .slice (some ⟨w1.heap.size, 0, none⟩) (m + 1) (m + 1)] 22 (0, 0)) ∧ RowB w' w1.heap.size 5 L ∧ Below w.heap.size w w') from fun w' h => by
            have := h.size
            exact ⟨hby.keep fun i hi => ⟨by omega, h.block i (by omega)⟩, hkr.keep (h.block 0 (by omega)), (h.block _ hltq).trans hq, hr.keep (h.block _ hlt1), hb.trans (h.mono hsz)⟩)
          have q1 := eq_self (sha l') (sha_len _)
          have q2 := eq_self (tagd s.data.toList l') (tagd_len _ _)
          have b1 : (j : Int) < 2 := by omega
          have C := sum_all l' A' c' wr (KEEP.out wr (Below.refl _ _)).1 (KEEP.out wr (Below.refl _ _)).2.1
          have HC := Lib.hid C
          clear hq hr hb hkr hby C
          go_wp2_with fail
          refine HC.out.mono ?_
          rintro e w5 ⟨rfl, hb5⟩
          have hz5 := hb5.size
          have C := rsum_all l' A' c' w5 (KEEP.out w5 hb5).1 (by omega)
          have HC2 := Lib.hid C
          have HB5 := Lib.hid hb5
          clear C hb5 HC
          go_wp2_with fail
          refine HC2.out.mono ?_
          rintro e w6 ⟨rfl, hb6⟩
          have hz6 := hb6.size
          have hb6' := HB5.out.trans (hb6.mono hz5)
          have C := tagged_all s l' A' c' w6 (by omega) (by omega) (KEEP.out w6 hb6').1 (KEEP.out w6 hb6').2.1
          have HC3 := Lib.hid C
          have HB6 := Lib.hid hb6'
          clear C hb6 hb6' HC2 HB5
          go_wp2_with fail
          refine HC3.out.mono ?_
          rintro e w7 ⟨rfl, hb7⟩
          have hz7 := hb7.size
          have hb7' := HB6.out.trans (hb7.mono (by omega))
          have C := rtagged_all s l' A' c' w7 (by omega) (by omega) (KEEP.out w7 hb7').1
          have HC4 := Lib.hid C
          have HB7 := Lib.hid hb7'
          clear C hb7 hb7' HC3 HB6
          go_wp2_with fail
          refine HC4.out.mono ?_
          rintro e w8 ⟨rfl, hb8⟩
          have HB8 := Lib.hid (HB7.out.trans (hb8.mono (by omega)))
          clear hb8 HC4 HB7
          go_wp2_with fail
          go_roundw
          case rel =>
            refine ⟨_, _, _, _, _, _, _, _, _, _, _, _, _, _, _, _, _, _, _, _, _, ?_, rfl⟩
            exact ⟨j + 1, by simp, by omega, (KEEP.out _ HB8.out).2.2⟩
          case measure => simp [intOf]; omega
        · obtain rfl : j = 2 := by omega
          have HB := Lib.hid hb
          clear hq hr hb
          go_wp2_with fail
          go_ret
          exact ⟨rfl, HB.out⟩
end Go.Proofs.YtidmhnaecpbdeaaDoor
