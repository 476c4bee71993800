/- Several texts joined: parts XB XC XD XE XF XG XI. -/
import Derived.Test.YteicbdjennjcdaaDoorW03
import Derived.Laws.BitsLemmas
import Derived.Laws.Bits64
import Derived.IntWalk
import Derived.Lib.AppendZerosOnto
import Derived.Laws.OwnMore
import Derived.RangeFuncNested
import Derived.RangeFuncBound
import Derived.RangeFuncCalls
import Derived.RangeFuncLeaves
import Derived.RangeFuncBox
import Derived.Shelf.Abstract
import Derived.Shelf.RegionOpen
import Derived.OwnWalkIn
import Derived.TacticsInMore
import Derived.LoopNIn
import Derived.LoopIn
import Derived.Maps.AppendAt
import Derived.Maps.OwnOps
namespace Go.Proofs.YteicbdjennjcdaaDoor
section
set_option maxRecDepth 100000
open Go.RowKit

def NI (l : List Nat) : List Value := l.map fun (n : Nat) => Value.int .i64 (n : Int)
theorem NI_length (l : List Nat) : (NI l).length = l.length := by simp [NI]
theorem NI_append (l m : List Nat) : NI (l ++ m) = NI l ++ NI m := by simp [NI]
theorem NI_get (l : List Nat) (i : Nat) : (NI l)[i]? = (l[i]?).map fun (n : Nat) => Value.int .i64 (n : Int) := by unfold NI; rw [List.getElem?_map]
theorem NI_one (l : List Nat) : ∀ u ∈ NI l, u.oneCell' = true := by
  intro u hu
  simp only [NI, List.mem_map] at hu
  obtain ⟨b, _, rfl⟩ := hu
  rfl
theorem NI_set (l : List Nat) (i : Nat) (x : Nat) : (NI l).set i (.int .i64 (x : Int)) = NI (l.set i x) := by simp [NI, List.map_set]
/-- a row of numbers at block b -/
def RowN (w : World) (b : Nat) (t : TypeId) (l : List Nat) : Prop := w.heap[b]? = some (.cells (NI l).toArray t (0, 0))
theorem RowN.cell {w : World} {b : Nat} {t : TypeId} {l : List Nat} (h : RowN w b t l) {i : Nat} {x : Nat} (hx : l[i]? = some x) : w.cell? ⟨b, i, none⟩ = some (.int .i64 (x : Int)) := by
  rw [cell_of_row w b i _ _ _ h]
  simp [NI, hx]
theorem RowN.set {w : World} {b : Nat} {t : TypeId} {l : List Nat} (h : RowN w b t l) (i : Nat) (x : Nat) : RowN (w.setCell ⟨b, i, none⟩ (.int .i64 (x : Int))) b t (l.set i x) := by
  have h' : w.heap[b]? = some (.cells (NI l).toArray t (0, 0)) := h
  rw [setCell_eq_setRow w b i _ t _ _ h']
  show (w.setRow b _).heap[b]? = _
  rw [setRow_heap w b _ _ t _ h']
  simp [← NI_set]
theorem RowN.frozen {w : World} {b : Nat} {t : TypeId} {l : List Nat} (h : RowN w b t l) (i : Nat) : w.frozen? ⟨b, i, none⟩ = false := frozen_of_row w b i _ t h
theorem RowN.lt {w : World} {b : Nat} {t : TypeId} {l : List Nat} (h : RowN w b t l) : b < w.heap.size := (Array.getElem?_eq_some_iff.1 h).1
theorem RowN.keep {w w' : World} {b : Nat} {t : TypeId} {l : List Nat} (h : RowN w b t l) (hk : w'.heap[b]? = w.heap[b]?) : RowN w' b t l := hk.trans h
theorem RowN.setRow {w : World} {b : Nat} {t : TypeId} {l : List Nat} (h : RowN w b t l) (m : List Nat) : RowN (w.setRow b (NI m).toArray) b t m := setRow_heap w b _ _ t _ h
def fln (n : Nat) (l : List Nat) : List Nat := l ++ List.replicate (n - l.length) 0
theorem fln_set (n : Nat) (l : List Nat) (x : Nat) (h : l.length < n) : (fln n l).set l.length x = fln n (l ++ [x]) := by
  unfold fln
  rw [List.set_append_right _ _ (Nat.le_refl _), Nat.sub_self, List.length_append, List.length_singleton, show n - l.length = (n - (l.length + 1)) + 1 from by omega, List.replicate_succ, List.set_cons_zero, List.append_assoc]
  rfl
theorem fln_full (n : Nat) (l : List Nat) (h : l.length = n) : fln n l = l := by
  unfold fln; rw [h, Nat.sub_self]; simp
theorem fln_next (n : Nat) (l : List Nat) (h : l.length < n) : (fln n l)[l.length]? = some 0 := by
  unfold fln
  rw [List.getElem?_append_right (Nat.le_refl _), Nat.sub_self, show n - l.length = (n - l.length - 1) + 1 from by omega, List.replicate_succ]
  rfl
theorem RowN.next {w : World} {b n : Nat} {t : TypeId} {l : List Nat} (h : RowN w b t (fln n l)) (hn : l.length < n) (x : Nat) : RowN (w.setCell ⟨b, l.length, none⟩ (.int .i64 (x : Int))) b t (fln n (l ++ [x])) := by
  have := h.set l.length x
  rwa [fln_set n l x hn] at this
theorem NI_ones (l : List Nat) : (NI l).toArray.all (·.oneCell') = true := by
  rw [Array.all_eq_true_iff_forall_mem]
  intro v hv
  exact NI_one l v (by simpa using hv)
theorem NI_size (l : List Nat) : (NI l).toArray.size = l.length := by simp [NI]
theorem sz19 : (Tryd.prog.info? 75).map (·.size) = some 19 := by kernel_rfl

theorem load_N {ops : Array Oper} {rest : List Oper} {o : Oper} {a : Act} {w : World} {Q : Exit → Act → World → Prop} (hgd : o.guard = none) (x : Operand) (ho : o.op = .load 75 x)
    (g : Nat) (hx : a.eval x = .pointer (some ⟨g, 0, none⟩)) (t : TypeId) (l : List Nat) (h : RowN w g t l) (hl : l.length = 19)
    (hK : wpList Tryd.prog ops Q rest (a.put o.dst (.agg (NI l).toArray)) w) : wpList Tryd.prog ops Q (o :: rest) a w :=
  wpList_load_row hgd 75 x ho g hx t _ (0, 0) _ h Tryd.underlying75 rfl (by rw [sz19, NI_size, hl]) hK
theorem store_N {ops : Array Oper} {rest : List Oper} {o : Oper} {a : Act} {w : World} {Q : Exit → Act → World → Prop} (hgd : o.guard = none) (x y : Operand) (ho : o.op = .store 75 x y)
    (g : Nat) (l l' : List Nat) (hx : a.eval x = .pointer (some ⟨g, 0, none⟩)) (hy : a.eval y = .agg (NI l').toArray) (t : TypeId) (h : RowN w g t l) (hl : l'.length = 19) (hl0 : l.length = 19)
    (hK : wpList Tryd.prog ops Q rest (a.put o.dst undef) (w.setRow g (NI l').toArray)) : wpList Tryd.prog ops Q (o :: rest) a w :=
  wpList_store_row hgd 75 x y ho g _ hx hy t _ h (by rw [sz19, NI_size, hl]) (by rw [NI_size, NI_size, hl, hl0]) (NI_ones l') hK
theorem store_NS {ops : Array Oper} {rest : List Oper} {o : Oper} {a : Act} {w : World} {Q : Exit → Act → World → Prop} (hgd : o.guard = none) (x y : Operand) (ho : o.op = .store 75 x y)
    (g : Nat) (l : List Nat) (hx : a.eval x = .pointer (some ⟨g, 0, none⟩)) (hy : a.eval y = .agg (NI l).toArray) (t : TypeId) (h : RowN w g t l) (hl : l.length = 19)
    (hK : wpList Tryd.prog ops Q rest (a.put o.dst undef) w) : wpList Tryd.prog ops Q (o :: rest) a w :=
  store_N hgd x y ho g l l hx hy t h hl hl (by rw [setRow_self w g _ t _ h]; exact hK)
theorem res_N {fn : Func} {p : Tmp} (h : fn.results = #[.cell p 75]) (tmps : Array Value) (w : World) (g : Nat) (t : TypeId) (l : List Nat)
    (hp : tmps.getD p undef = .pointer (some ⟨g, 0, none⟩)) (hg : RowN w g t l) (hl : l.length = 19) :
    (results fn tmps).run Tryd.prog w = .ok (.agg (NI l).toArray) w :=
  results_cell_row h tmps w g t _ (0, 0) _ hp hg Tryd.underlying75 rfl (by rw [sz19, NI_size, hl])


theorem and3 (n : Nat) (h : n ≤ 1000000) : bits .and .i64 (n : Int) 3 = ((n % 4 : Nat) : Int) := by
  have h := bits_mask .i64 63 (by decide) (fun n h0 h1 => IntWalk.i64_in n (by omega)) 2 (by decide) (n : Int) (by omega) (by omega)
  have e : ((2 : Int) ^ 2 - 1) = 3 := by decide
  have e2 : ((2 : Int) ^ 2) = 4 := by decide
  rw [e, e2] at h
  rw [h]
  omega
theorem shr4 (n k : Nat) : (n : Int) / 2 ^ (2 * k) = ((n / 4 ^ k : Nat) : Int) := by
  have e : (4 : Nat) ^ k = 2 ^ (2 * k) := by rw [Nat.pow_mul]
  rw [e, Int.natCast_ediv, Int.natCast_pow]
  rfl
set_option maxHeartbeats 400000 in
theorem digit_all (n k : Nat) (w : World) (hn : n ≤ 1000) (hk : k ≤ 3) : Calls Tryd.prog 88 #[.int .i64 n, .int .i64 k] w fun e w' => e = .returned (.int .i64 (n / 4 ^ k % 4 : Nat)) ∧ w' = w := by
  go_enter Tryd.func88, Tryd.ntmps88
  go_wp2
  go_ret
  exact ⟨ret_int (by rw [shr4, and3 _ (Nat.le_trans (Nat.div_le_self _ _) (by omega))]), rfl⟩
end
section
set_option maxRecDepth 100000
open Go.RowKit

def d16 (m : List UInt8) (i : Nat) : Nat := (by_ m (i / 4)).toNat / 4 ^ (3 - i % 4) % 4
def ds (m : List UInt8) (n : Nat) : List Nat := (List.range n).map (d16 m)
def sm (m : List UInt8) : Nat → Nat
  | 0 => 0
  | n + 1 => sm m n + (3 - d16 m n)
def t3 (s n : Nat) : List Nat := (List.range n).map fun i => s / 4 ^ (2 - i) % 4
/-- the 19 digits -/
def dgl (m : List UInt8) : List Nat := ds m 16 ++ t3 (sm m 16) 3
theorem d16_le (m : List UInt8) (i : Nat) : d16 m i ≤ 3 := by unfold d16; omega
theorem ds_len (m : List UInt8) (n : Nat) : (ds m n).length = n := by simp [ds]
theorem ds_succ (m : List UInt8) (n : Nat) : ds m (n + 1) = ds m n ++ [d16 m n] := by simp [ds, List.range_succ]
theorem t3_len (s n : Nat) : (t3 s n).length = n := by simp [t3]
theorem t3_succ (s n : Nat) : t3 s (n + 1) = t3 s n ++ [s / 4 ^ (2 - n) % 4] := by simp [t3, List.range_succ]
theorem sm_le (m : List UInt8) (n : Nat) : sm m n ≤ 3 * n := by
  induction n with
  | zero => simp [sm]
  | succ n ih => rw [sm]; omega
theorem dgl_len (m : List UInt8) : (dgl m).length = 19 := by rw [dgl, List.length_append, ds_len, t3_len]
theorem dgl_le (m : List UInt8) : ∀ d ∈ dgl m, d ≤ 3 := by
  intro d hd
  rcases List.mem_append.1 hd with h | h
  · obtain ⟨i, _, rfl⟩ := List.mem_map.1 h
    exact d16_le m i
  · obtain ⟨i, _, rfl⟩ := List.mem_map.1 h
    omega
theorem by_get (m : List UInt8) (i : Nat) (h : i < m.length) : m[i]? = some (by_ m i) := by
  rw [by_, List.getD_eq_getElem?_getD, List.getElem?_eq_getElem h]
  rfl

set_option maxRecDepth 100000 in
set_option maxHeartbeats 1600000 in
theorem digitsOf_all (m : List UInt8) (w : World) (hm : m.length = 32) :
    Calls Tryd.prog 56 #[.agg (U m).toArray] w fun e w' => e = .returned (.agg (NI (dgl m)).toArray) ∧ Below w.heap.size w w' := by
  have HM := Lib.hid hm
  clear hm
  go_enter Tryd.func56, Tryd.ntmps56
  go_wp2_with fail
  generalize hW1 : (w.alloc _).alloc _ = W1
  obtain ⟨h0, h1, hb1, hz1⟩ := box2 w (U m).toArray (NI (fln 19 [])).toArray 23 75 W1 hW1
  have R0 := Lib.hid (show RowB W1 w.heap.size 23 m from h0)
  have R1 := Lib.hid (show RowN W1 (w.heap.size + 1) 75 (fln 19 (ds m 0)) from h1)
  have HB1 := Lib.hid hb1
  clear hW1 h0 h1 hb1 hz1
  go_loopw [3, 6] (fun s x wr => ∃ k : Nat, k ≤ 16 ∧ s = .int .i64 (sm m k) ∧ x = .int .i64 k ∧ Hid (RowB wr w.heap.size 23 m) ∧ Hid (RowN wr (w.heap.size + 1) 75 (fln 19 (ds m k))) ∧ Hid (Below w.heap.size w wr)) (fun _ x _ => 16 - (intOf x).toNat)
  case atStart => exact ⟨0, by omega, rfl, rfl, R0, R1, HB1⟩
  case round =>
    obtain ⟨k, hk, rfl, rfl, H0, H1, HB⟩ := hrel
    have hsm := sm_le m k
    by_cases hlt : k < 16
    · have hc := H0.out.cell (by_get m (k / 4) (by rw [HM.out]; omega))
      have hbb := (by_ m (k / 4)).toNat_lt
      have hd := d16_le m k
      have C := digit_all (by_ m (k / 4)).toNat (3 - k % 4) wr (by omega) (by omega)
      rw [show ((3 - k % 4 : Nat) : Int) = 3 - (k : Int) % 4 by omega, show (by_ m (k / 4)).toNat / 4 ^ (3 - k % 4) % 4 = d16 m k from rfl] at C
      have CC := Lib.hid C
      have hn := fln_next 19 (ds m k) (by rw [ds_len]; omega)
      rw [ds_len] at hn
      have hc2 := H1.out.cell hn
      have hf2 := H1.out.frozen k
      have H2 := Lib.hid (H1.out.next (by rw [ds_len]; omega) (d16 m k))
      rw [ds_len, ← ds_succ] at H2
      have HS := Lib.hid (show sm m (k + 1) = sm m k + (3 - d16 m k) from rfl)
      have H3 := Lib.hid (show RowB (wr.setCell ⟨w.heap.size + 1, k, none⟩ (.int .i64 (d16 m k : Int))) w.heap.size 23 m from H0.out.keep (((Below.refl (w.heap.size + 1) wr).setCell (Nat.le_refl _) _).block w.heap.size (by omega)))
      clear C hn
      generalize (by_ m (k / 4)).toNat = B at *
      generalize d16 m k = D at *
      go_wp2_with fail
      refine CC.out.mono ?_
      rintro e w' ⟨rfl, hw'⟩
      rw [hw']
      clear hw' w'
      go_wp2_with fail
      go_roundw
      case rel => exact ⟨k + 1, by omega, by rw [HS.out]; congr 1; omega, rfl, H3, H2, Lib.hid (HB.out.setCell (by simp) _)⟩
      case measure => simp [intOf]; omega
    · obtain rfl : k = 16 := by omega
      have hS : sm m 16 ≤ 48 := hsm
      have HD := Lib.hid (show dgl m = ds m 16 ++ t3 (sm m 16) 3 from rfl)
      have HL := Lib.hid (ds_len m 16)
      generalize sm m 16 = S at *
      generalize ds m 16 = L16 at *
      clear hsm R0 R1 HB1
      rw [show ((16 : Nat) : Int) = 16 from rfl]
      go_wp2_with fail
      go_loopw [27] (fun x wr => ∃ k : Nat, k ≤ 3 ∧ x = .int .i64 k ∧ Hid (RowN wr (w.heap.size + 1) 75 (fln 19 (L16 ++ t3 S k))) ∧ Hid (Below w.heap.size w wr)) (fun x _ => 3 - (intOf x).toNat)
      case atStart => exact ⟨0, by omega, rfl, Lib.hid (by simpa [t3] using H1.out), HB⟩
      case round =>
        obtain ⟨k, hk, rfl, H1, HB⟩ := hrel
        have hl : (L16 ++ t3 S k).length = 16 + k := by rw [List.length_append, HL.out, t3_len]
        by_cases hlt : k < 3
        · have C := digit_all S (2 - k) wr (by omega) (by omega)
          rw [show ((2 - k : Nat) : Int) = 2 - (k : Int) by omega] at C
          have CC := Lib.hid C
          have hn := fln_next 19 (L16 ++ t3 S k) (by rw [hl]; omega)
          rw [hl] at hn
          have hc2 := H1.out.cell hn
          have hf2 := H1.out.frozen (16 + k)
          have H2 := Lib.hid (H1.out.next (by rw [hl]; omega) (S / 4 ^ (2 - k) % 4))
          rw [hl, List.append_assoc, ← t3_succ] at H2
          clear C hn hl
          generalize S / 4 ^ (2 - k) % 4 = D at *
          go_wp2_with fail
          refine CC.out.mono ?_
          rintro e w' ⟨rfl, hw'⟩
          rw [hw']
          clear hw' w'
          go_wp2_with fail
          go_roundw
          case rel => exact ⟨k + 1, by omega, rfl, H2, Lib.hid (HB.out.setCell (by simp) _)⟩
          case measure => simp [intOf]; omega
        · obtain rfl : k = 3 := by omega
          have hfin : RowN wr (w.heap.size + 1) 75 (dgl m) := by
            have := H1.out
            rwa [fln_full _ _ hl, ← HD.out] at this
          clear H1 hl
          go_wp2_with (first | (refine load_N rfl (.tmp 2) rfl (w.heap.size + 1) rfl 75 (dgl m) hfin (dgl_len m) ?_) | (refine store_NS rfl (.tmp 2) (.tmp 38) rfl (w.heap.size + 1) (dgl m) rfl rfl 75 hfin (dgl_len m) ?_))
          exact bodyPost_ret (res_N rfl _ _ _ _ _ rfl hfin (dgl_len m)) rfl ⟨rfl, HB.out⟩

/-- the steps that are left -/
def lft (D : List Nat) : List Nat := D.map (3 - ·)
theorem lft_len (D : List Nat) : (lft D).length = D.length := by simp [lft]

set_option maxRecDepth 100000 in
set_option maxHeartbeats 1600000 in
theorem left_all (D : List Nat) (w : World) (hD : D.length = 19) (h3 : ∀ d ∈ D, d ≤ 3) :
    Calls Tryd.prog 90 #[.agg (NI D).toArray] w fun e w' => e = .returned (.agg (NI (lft D)).toArray) ∧ Below w.heap.size w w' := by
  have HM := Lib.hid hD
  have H3 := Lib.hid h3
  clear hD h3
  go_enter Tryd.func90, Tryd.ntmps90
  go_wp2_with fail
  generalize hW1 : (w.alloc _).alloc _ = W1
  obtain ⟨h0, h1, hb1, hz1⟩ := box2 w (NI D).toArray (NI (fln 19 [])).toArray 75 75 W1 hW1
  have R0 := Lib.hid (show RowN W1 w.heap.size 75 D from h0)
  have R1 := Lib.hid (show RowN W1 (w.heap.size + 1) 75 (fln 19 (lft (D.take 0))) from h1)
  have HB1 := Lib.hid hb1
  clear hW1 h0 h1 hb1 hz1
  go_loopw [4] (fun x wr => ∃ k : Nat, k ≤ 19 ∧ x = .int .i64 k ∧ Hid (RowN wr w.heap.size 75 D) ∧ Hid (RowN wr (w.heap.size + 1) 75 (fln 19 (lft (D.take k)))) ∧ Hid (Below w.heap.size w wr)) (fun x _ => 19 - (intOf x).toNat)
  case atStart => exact ⟨0, by omega, rfl, R0, R1, HB1⟩
  case round =>
    obtain ⟨k, hk, rfl, H0, H1, HB⟩ := hrel
    have hl : (lft (D.take k)).length = k := by rw [lft_len, List.length_take, HM.out]; omega
    by_cases hlt : k < 19
    · obtain ⟨d, hd⟩ : ∃ d, D[k]? = some d := ⟨_, List.getElem?_eq_getElem (by rw [HM.out]; exact hlt)⟩
      have hd3 := H3.out d (List.mem_of_getElem? hd)
      have hc := H0.out.cell hd
      have hn := fln_next 19 (lft (D.take k)) (by rw [hl]; omega)
      rw [hl] at hn
      have hc2 := H1.out.cell hn
      have hf2 := H1.out.frozen k
      have H2 := Lib.hid (H1.out.next (by rw [hl]; omega) (3 - d))
      rw [hl, show lft (D.take k) ++ [3 - d] = lft (D.take (k + 1)) by rw [List.take_add_one, hd]; simp [lft], show ((3 - d : Nat) : Int) = 3 - (d : Int) by omega] at H2
      have H4 := Lib.hid (show RowN (wr.setCell ⟨w.heap.size + 1, k, none⟩ (.int .i64 (3 - (d : Int)))) w.heap.size 75 D from H0.out.keep (((Below.refl (w.heap.size + 1) wr).setCell (Nat.le_refl _) _).block w.heap.size (by omega)))
      clear hn hl hd
      go_wp2_with fail
      go_roundw
      case rel => exact ⟨k + 1, by omega, rfl, H4, H2, Lib.hid (HB.out.setCell (by simp) _)⟩
      case measure => simp [intOf]; omega
    · obtain rfl : k = 19 := by omega
      have hfin : RowN wr (w.heap.size + 1) 75 (lft D) := by
        have := H1.out
        rw [fln_full _ _ hl] at this
        rwa [List.take_of_length_le (by rw [HM.out]; omega)] at this
      have hll : (lft D).length = 19 := by rw [lft_len, HM.out]
      have HLL := Lib.hid hll
      clear H1 hl hll
      go_wp2_with (first | (refine load_N rfl (.tmp 2) rfl (w.heap.size + 1) rfl 75 (lft D) hfin HLL.out ?_) | (refine store_NS rfl (.tmp 2) (.tmp 14) rfl (w.heap.size + 1) (lft D) rfl rfl 75 hfin HLL.out ?_))
      exact bodyPost_ret (res_N rfl _ _ _ _ _ rfl hfin HLL.out) rfl ⟨rfl, HB.out⟩
end
section
set_option maxRecDepth 100000
open Go.RowKit

set_option maxRecDepth 100000 in
set_option maxHeartbeats 3200000 in
theorem grow_all (n : Nat) (w : World) (hn : n ≤ 10000000) :
    Calls Tryd.prog 115 #[.slice none 0 0, .int .i64 n] w fun e w' => ∃ v, e = .returned v ∧ Own w' w.heap.size v [] ∧ Below w.heap.size w w' := by
  obtain ⟨i0, hi, hz0, hz1, hz2⟩ := info_parts info_u8
  by_cases h0 : n = 0
  · subst h0
    go_enter Tryd.func115, Tryd.ntmps115
    go_wp2_with fail
    go_ret
    exact ⟨_, rfl, Own.nil _ _, Below.refl _ _⟩
  · have hrun : ∀ ty, (Builtin.append_ #[62, 3] ty #[.slice none 0 0, .int .i64 n]).run Tryd.prog w = .ok (.slice (some ⟨w.heap.size, 0, none⟩) n (grownCap w n 0 5))
        (w.drew.alloc (.cells (#[] ++ Builtin.zeroCells #[.int .u8 0] n ++ Builtin.zeroCells #[.int .u8 0] (grownCap w n 0 5 - n)) 5)) := fun ty => by
      have h := Lib.run_append_grow_zeros w 62 3 ty 5 i0 _ .i64 .i64 Tryd.underlying62 Tryd.underlying3 hi hz0 none 0 0 [] (run_firstCells_none w.drew i0.size 0 0 0) n (by omega) (by omega) (by omega) (by omega) (by rw [hz2]; omega) (by rw [Nat.zero_add]; exact growslice_fits (by omega) (by rw [hz2]; omega))
      simp only [Nat.zero_add] at h
      exact h
    have hG := grownCap_ge w n 0 5
    have hG2 := grownCap_le_maxLen w n 0 5 (by unfold maxLen; omega)
    generalize grownCap w n 0 5 = G at hrun hG hG2
    have hzc : ∀ m, (Builtin.zeroCells #[.int .u8 0] m).size = m * 1 := fun m => by
      simp [Builtin.zeroCells]
    obtain ⟨cs, hcs⟩ : ∃ cs : Array Value, cs = (#[] ++ Builtin.zeroCells #[.int .u8 0] n ++ Builtin.zeroCells #[.int .u8 0] (G - n)) := ⟨_, rfl⟩
    have hcz : cs.size = G * 1 := by rw [hcs]; simp [hzc]; omega
    rw [← hcs] at hrun
    have HCZ := Lib.hid hcz
    have hGm : G ≤ 9223372036854775807 := hG2
    clear hcz hcs hzc hi hz0 hz1 hz2
    go_enter Tryd.func115, Tryd.ntmps115
    go_wp2_with (at_builtin; refine Lib.wpList_append_run _ rfl _ _ _ _ rfl _ _ rfl rfl _ _ (hrun _) ?_)
    go_ret
    exact ⟨_, rfl, ⟨by simp [U], .inr ⟨w.heap.size, G, cs, rfl, Nat.le_refl _, heap_alloc_new w.drew _, Nat.zero_le _, hG2, HCZ.out, by simp [U]⟩⟩, (Below.refl _ _).drew.alloc (Nat.le_refl _) _⟩

abbrev Pt := Option Addr × Nat × List UInt8
def Parts (w : World) (S : Nat → Prop) (g : Nat) (PS : List Pt) : Prop :=
  ∀ (j : Nat) x, PS[j]? = some x → w.cell? ⟨g, j, none⟩ = some (.slice x.1 x.2.2.length x.2.1) ∧ Byt w S x.2.2 x.1 x.2.1
theorem Parts.keep {w w' : World} {S S' : Nat → Prop} {g : Nat} {PS : List Pt} (h : Parts w S g PS) (hg : w'.heap[g]? = w.heap[g]?) (hs : ∀ i, S i → S' i ∧ w'.heap[i]? = w.heap[i]?) : Parts w' S' g PS := fun j x hx => by
  obtain ⟨h1, h2⟩ := h j x hx
  exact ⟨(World.cell?_of_block hg).trans h1, h2.keep hs⟩
def tot (PS : List Pt) : Nat := (PS.map fun x => x.2.2.length).sum
def cat (PS : List Pt) : List UInt8 := PS.flatMap (·.2.2)
theorem cat_len (PS : List Pt) : (cat PS).length = tot PS := by
  unfold cat tot
  rw [List.length_flatMap]
theorem take_one {α : Type} (L : List α) (k : Nat) (x : α) (h : L[k]? = some x) : L.take (k + 1) = L.take k ++ [x] := by
  obtain ⟨hk, e⟩ := List.getElem?_eq_some_iff.1 h
  rw [List.take_succ_eq_append_getElem hk, e]
theorem tot_app (P Q : List Pt) : tot (P ++ Q) = tot P + tot Q := by simp [tot]
theorem cat_app (P Q : List Pt) : cat (P ++ Q) = cat P ++ cat Q := by simp [cat]
theorem tot_le (PS : List Pt) (k : Nat) : tot (PS.take k) ≤ tot PS := by
  have : tot PS = tot (PS.take k) + tot (PS.drop k) := by rw [← tot_app, List.take_append_drop]
  omega

set_option maxRecDepth 100000 in
set_option maxHeartbeats 3200000 in
theorem concat_all (PS : List Pt) (g cap : Nat) (w : World) (hp : Parts w (· < w.heap.size) g PS) (hg : g < w.heap.size) (_hcap : PS.length ≤ cap) (_hcap2 : cap ≤ 9223372036854775807) (hn : PS.length ≤ 100) (ht : tot PS ≤ 100000) :
    Calls Tryd.prog 106 #[.slice (some ⟨g, 0, none⟩) PS.length cap] w fun e w' => ∃ v, e = .returned v ∧ Own w' w.heap.size v (cat PS) ∧ Below w.heap.size w w' := by
  have HP := Lib.hid hp
  clear hp
  have HT := Lib.hid (tot_le PS)
  go_enter Tryd.func106, Tryd.ntmps106
  go_wp2_with fail
  go_loop [3, 11] (fun s x => ∃ k : Nat, k ≤ PS.length ∧ s = .int .i64 (tot (PS.take k) : Nat) ∧ x = .int .i64 k) (fun _ x => PS.length - (intOf x).toNat)
  case atStart => exact ⟨0, Nat.zero_le _, rfl, rfl⟩
  case round =>
    obtain ⟨k, hk, rfl, rfl⟩ := hrel
    have hle := HT.out k
    by_cases hlt : k < PS.length
    · obtain ⟨x, hx⟩ : ∃ x, PS[k]? = some x := ⟨_, List.getElem?_eq_getElem hlt⟩
      obtain ⟨hc, hr⟩ := HP.out k x hx
      have HS := Lib.hid (show tot (PS.take (k + 1)) = tot (PS.take k) + x.2.2.length by rw [take_one PS k x hx, tot_app]; simp [tot])
      have hle2 := HT.out (k + 1)
      have hsum : tot (PS.take k) + x.2.2.length ≤ 10000000 := by have := HS.out; omega
      clear hx hr hle2
      generalize tot (PS.take k) = tk at *
      generalize x.2.2.length = m at *
      go_wp2_with fail
      go_round
      case rel => exact ⟨k + 1, by omega, by rw [HS.out]; go_num, by go_num⟩
      case measure => simp [intOf]; omega
    · obtain rfl : k = PS.length := by omega
      have HTK := Lib.hid (show tot (PS.take PS.length) = tot PS by rw [List.take_length])
      rw [HTK.out]
      clear hle
      have CG := Lib.hid (grow_all (tot PS) w (by omega))
      have HCL := Lib.hid (show ∀ k, (cat (PS.take k)).length ≤ 100000 from fun k => by rw [cat_len]; have := HT.out k; omega)
      generalize tot PS = T at *
      go_wp2_with fail
      refine CG.out.mono ?_
      rintro e w1 ⟨v, rfl, ho, hb1⟩
      obtain ⟨A1, c1, rfl⟩ := ho.slice
      have HO1 := Lib.hid ho
      have HB1 := Lib.hid hb1
      clear ho hb1 CG
      go_wp2_with fail
      go_loopw [6, 27] (fun v x wr => ∃ (k : Nat) (A' : Option Addr) (c' : Nat), v = .slice A' (cat (PS.take k)).length c' ∧ x = .int .i64 k ∧ k ≤ PS.length ∧ Hid (Own wr w.heap.size (.slice A' (cat (PS.take k)).length c') (cat (PS.take k))) ∧ Below w.heap.size w wr) (fun _ x _ => PS.length - (intOf x).toNat)
      case atStart => exact ⟨0, A1, c1, rfl, rfl, Nat.zero_le _, Lib.hid HO1.out, HB1.out⟩
      case round =>
        obtain ⟨k, A', c', rfl, rfl, hk, HO, hb⟩ := hrel
        have HB := Lib.hid hb
        have hz := hb.size
        by_cases hlt : k < PS.length
        · obtain ⟨⟨Ax, cx, Px⟩, hx⟩ : ∃ x, PS[k]? = some x := ⟨_, List.getElem?_eq_getElem hlt⟩
          obtain ⟨hc, hr⟩ := (HP.out.keep (S' := (· < w.heap.size)) (hb.block g hg) (fun i hi => ⟨hi, hb.block i hi⟩)) k _ hx
          simp only at hc hr
          have HR := Lib.hid hr
          have HS := Lib.hid (show cat (PS.take (k + 1)) = cat (PS.take k) ++ Px by rw [take_one PS k _ hx, cat_app]; simp [cat])
          have h1 := HCL.out (k + 1)
          rw [HS.out, List.length_append] at h1
          generalize cat (PS.take k) = M at *
          clear hb hx hr
          go_wp2_with (at_builtin; refine app_byt rfl (.tmp 31) (.tmp 32) rfl w.heap.size _ _ Ax cx M Px rfl rfl HO.out HR.out (by omega) hz ?_; intro v5 w5 ho5 hg5; have HB5 := Lib.hid (below_own HB.out hg5 HO.out (Nat.le_refl _) hz); obtain ⟨A5, c5, e5⟩ := ho5.slice; subst e5; have HO5 := Lib.hid ho5; clear ho5 hg5)
          go_roundw
          case rel => exact ⟨k + 1, A5, c5, by rw [HS.out, List.length_append], by go_num, by omega, Lib.hid (by rw [HS.out]; exact HO5.out), HB5.out⟩
          case measure => simp [intOf]; omega
        · obtain rfl : k = PS.length := by omega
          have HO' := HO.out
          rw [List.take_length] at HO' ⊢
          have HO2 := Lib.hid HO'
          clear HO' hb HO
          go_wp2_with fail
          go_ret
          exact ⟨_, rfl, HO2.out, HB.out⟩

set_option maxRecDepth 100000 in
set_option maxHeartbeats 1600000 in
/-- the hash of parts under a tag -/
theorem ctag_all (s : ByteArray) (PS : List Pt) (g cap : Nat) (w : World) (hs : s.size ≤ 1000) (hp : Parts w (· < w.heap.size) g PS) (hg : g < w.heap.size) (hcap : PS.length ≤ cap) (hcap2 : cap ≤ 9223372036854775807) (hn : PS.length ≤ 100) (ht : tot PS ≤ 100000) (hk : KR w Kt) :
    Calls Tryd.prog 91 #[.string s, .slice (some ⟨g, 0, none⟩) PS.length cap] w fun e w' => e = .returned (.agg (U (tagd s.data.toList (cat PS))).toArray) ∧ Below w.heap.size w w' := by
  have HP := Lib.hid hp
  have HK := Lib.hid hk
  have hlt0 := hk.lt
  have HL := Lib.hid (cat_len PS)
  clear hp hk
  go_enter Tryd.func91, Tryd.ntmps91
  go_wp2_with fail
  generalize hW1 : w.alloc _ = W1
  obtain ⟨h0, hb1, hz1⟩ := box1 w (U (flb 32 [])).toArray 23 W1 hW1
  clear hW1
  have C := concat_all PS g cap W1 (HP.out.keep (hb1.block g hg) fun i hi => ⟨by omega, hb1.block i hi⟩) (by omega) hcap hcap2 hn ht
  refine C.mono ?_
  rintro e w2 ⟨v, rfl, ho, hb2⟩
  have hz2 := hb2.size
  obtain ⟨A2, c2, rfl, hy⟩ := ho.byt
  have hd2 : RowB w2 w.heap.size 23 (flb 32 []) := (hb2.block _ (by omega)).trans h0
  have hbw : Below w.heap.size w w2 := hb1.trans (hb2.mono (by omega))
  have C2 := Lib.hid (tagged_all s (cat PS) A2 c2 w2 (by omega) (by rw [HL.out]; omega) (hy.keep fun i hi => ⟨hi.2, rfl⟩) (HK.out.keep (hbw.block 0 hlt0)))
  have HD2 := Lib.hid hd2
  have HBW := Lib.hid hbw
  clear C h0 hb1 hb2 ho hy hd2 hbw
  go_wp2_with fail
  refine C2.out.mono ?_
  rintro e w3 ⟨rfl, hb3⟩
  have hz3 := hb3.size
  have hd3 := HD2.out.keep (hb3.block w.heap.size (by omega))
  have hr3 := hd3.setRow (tagd s.data.toList (cat PS))
  have HB3 := Lib.hid (HBW.out.trans (hb3.mono (by omega)))
  clear hb3 C2
  go_wp2_with (refine store_B rfl (.tmp 4) (.tmp 8) rfl w.heap.size (flb 32 []) (tagd s.data.toList (cat PS)) rfl rfl 23 hd3 (tagd_len _ _) (by simp [flb]) ?_)
  exact bodyPost_ret (res_B rfl _ _ _ _ _ rfl hr3 (tagd_len _ _)) rfl ⟨rfl, below_setRow HB3.out (Nat.le_refl _) _⟩
end
section
set_option maxRecDepth 100000
open Go.RowKit

def stepT : ByteArray := ⟨#[115, 116, 101, 112]⟩
def chainT : ByteArray := ⟨#[99, 104, 97, 105, 110]⟩
def publicT : ByteArray := ⟨#[112, 117, 98, 108, 105, 99]⟩
/-- one step -/
def sd (x : List UInt8) : List UInt8 := tagd stepT.data.toList x
def sn : Nat → List UInt8 → List UInt8
  | 0, x => x
  | n + 1, x => sd (sn n x)
theorem sd_len (x : List UInt8) : (sd x).length = 32 := tagd_len _ _
theorem sn_len (n : Nat) (x : List UInt8) (h : x.length = 32) : (sn n x).length = 32 := by
  cases n with
  | zero => exact h
  | succ n => exact sd_len _
theorem sn_add (a b : Nat) (x : List UInt8) : sn a (sn b x) = sn (a + b) x := by
  induction a with
  | zero => rw [Nat.zero_add]; rfl
  | succ a ih => rw [show a + 1 + b = (a + b) + 1 by omega]; show sd _ = sd _; rw [ih]
def fst5 (s : List UInt8) (i : Nat) : List UInt8 := tagd chainT.data.toList (s ++ [UInt8.ofNat i])
theorem fst5_len (s : List UInt8) (i : Nat) : (fst5 s i).length = 32 := tagd_len _ _
def fsts (s : List UInt8) (n : Nat) : List (List UInt8) := (List.range n).map (fst5 s)
theorem fsts_len (s : List UInt8) (n : Nat) : (fsts s n).length = n := by simp [fsts]
theorem fsts_succ (s : List UInt8) (n : Nat) : fsts s (n + 1) = fsts s n ++ [fst5 s n] := by simp [fsts, List.range_succ]
def pubk (L : List (List UInt8)) : List UInt8 := tagd publicT.data.toList L.flatten
theorem pubk_len (L : List (List UInt8)) : (pubk L).length = 32 := tagd_len _ _

/-- one part -/
theorem ctag_one (s : ByteArray) (b : Nat) (x : List UInt8) (w : World) (hs : s.size ≤ 1000) (hx : x.length = 32) (hr : RowB w b 23 x) (hk : KR w Kt) :
    Calls Tryd.prog 91 #[.string s, .slice (some ⟨w.heap.size, 0, none⟩) 1 1] (w.alloc (.cells #[.slice (some ⟨b, 0, none⟩) 32 32] 62)) fun e w' => e = .returned (.agg (U (tagd s.data.toList x)).toArray) ∧ Below w.heap.size w w' := by
  obtain ⟨h0, hb1, hz1⟩ := box1 w #[.slice (some ⟨b, 0, none⟩) 32 32] 62 _ rfl
  have hlt := hr.lt
  have hlt0 := hk.lt
  have C := ctag_all s [(some ⟨b, 0, none⟩, 32, x)] w.heap.size 1 _ hs (fun j y hy => by
    cases j with
    | zero =>
      simp at hy
      subst hy
      refine ⟨?_, ((hr.keep (hb1.block _ hlt)).b32 hx).keep fun i hi => ⟨by omega, rfl⟩⟩
      simp only
      rw [hx]
      exact cell_of_row _ w.heap.size 0 _ _ _ h0
    | succ j => simp at hy) (by omega) (Nat.le_refl _) (by omega) (by simp) (by simp [tot, hx]) (hk.keep (hb1.block 0 hlt0))
  refine C.mono fun e w' ⟨he, hb⟩ => ⟨?_, hb1.trans (hb.mono (by omega))⟩
  rw [he]
  simp [cat]
theorem ctag_step (b : Nat) (x : List UInt8) (w : World) (hx : x.length = 32) (hr : RowB w b 23 x) (hk : KR w Kt) :
    Calls Tryd.prog 91 #[.string ⟨#[115, 116, 101, 112]⟩, .slice (some ⟨w.heap.size, 0, none⟩) 1 1] (w.alloc (.cells #[.slice (some ⟨b, 0, none⟩) 32 32] 62)) fun e w' => e = .returned (.agg (U (sd x)).toArray) ∧ Below w.heap.size w w' :=
  ctag_one stepT b x w (by decide) hx hr hk
/-- two parts -/
theorem ctag_first (b i : Nat) (x : List UInt8) (w : World) (hx : x.length = 32) (hi : i < 256) (hr : RowB w b 23 x) (hk : KR w Kt) :
    Calls Tryd.prog 91 #[.string chainT, .slice (some ⟨w.heap.size + 1, 0, none⟩) 2 2] ((w.alloc (.cells #[.int .u8 i] 5)).alloc (.cells #[.slice (some ⟨b, 0, none⟩) 32 32, .slice (some ⟨w.heap.size, 0, none⟩) 1 1] 62)) fun e w' => e = .returned (.agg (U (fst5 x i)).toArray) ∧ Below w.heap.size w w' := by
  obtain ⟨h0, h1, hb1, hz1⟩ := box2 w #[.int .u8 i] #[.slice (some ⟨b, 0, none⟩) 32 32, .slice (some ⟨w.heap.size, 0, none⟩) 1 1] 5 62 _ rfl
  have hlt := hr.lt
  have hlt0 := hk.lt
  have hby := byt_one w (UInt8.ofNat i) (i : Int) (by rw [UInt8.toNat_ofNat', Nat.mod_eq_of_lt hi])
  have hz0 : (w.alloc (.cells #[.int .u8 i] 5)).heap.size = w.heap.size + 1 := by simp
  have hb2 : Below (w.heap.size + 1) (w.alloc (.cells #[.int .u8 i] 5)) ((w.alloc (.cells #[.int .u8 i] 5)).alloc (.cells #[.slice (some ⟨b, 0, none⟩) 32 32, .slice (some ⟨w.heap.size, 0, none⟩) 1 1] 62)) := (Below.refl _ _).alloc (by simp) _
  have C := ctag_all chainT [(some ⟨b, 0, none⟩, 32, x), (some ⟨w.heap.size, 0, none⟩, 1, [UInt8.ofNat i])] (w.heap.size + 1) 2 _ (by decide) (fun j y hy => by
    match j, hy with
    | 0, hy =>
      simp at hy
      subst hy
      refine ⟨?_, ((hr.keep (hb1.block _ hlt)).b32 hx).keep fun i hi => ⟨by omega, rfl⟩⟩
      simp only
      rw [hx]
      exact cell_of_row _ (w.heap.size + 1) 0 _ _ _ h1
    | 1, hy =>
      simp at hy
      subst hy
      exact ⟨cell_of_row _ (w.heap.size + 1) 1 _ _ _ h1, hby.keep fun i hi => ⟨by omega, hb2.block i hi⟩⟩
    | j + 2, hy => simp at hy) (by omega) (Nat.le_refl _) (by omega) (by simp) (by simp [tot, hx]) (hk.keep (hb1.block 0 hlt0))
  refine C.mono fun e w' ⟨he, hb⟩ => ⟨?_, hb1.trans (hb.mono (by omega))⟩
  rw [he]
  simp [cat, fst5]

set_option maxRecDepth 100000 in
set_option maxHeartbeats 1600000 in
theorem firsts_all (s : List UInt8) (w : World) (hs : s.length = 32) (hk : KR w Kt) :
    Calls Tryd.prog 59 #[.agg (U s).toArray] w fun e w' => ∃ v, e = .returned v ∧ OwnD w' w.heap.size v (fsts s 19) ∧ Below w.heap.size w w' := by
  have HS := Lib.hid hs
  have HK := Lib.hid hk
  have hlt0 := hk.lt
  clear hs hk
  go_enter Tryd.func59, Tryd.ntmps59
  go_wp2_with fail
  generalize hW1 : w.alloc _ = W1
  obtain ⟨h0, hb1, hz1⟩ := box1 w (U s).toArray 23 W1 hW1
  have R0 := Lib.hid (show RowB W1 w.heap.size 23 s from h0)
  have HB1 := Lib.hid hb1
  have hz1' : w.heap.size < W1.heap.size := by omega
  clear hW1 h0 hb1 hz1
  go_loopw [2, 4] (fun v x wr => ∃ (k : Nat) (A : Option Addr) (c : Nat), k ≤ 19 ∧ v = .slice A (fsts s k).length c ∧ x = .int .i64 k ∧ Hid (OwnD wr W1.heap.size (.slice A (fsts s k).length c) (fsts s k)) ∧ Hid (Below W1.heap.size W1 wr)) (fun _ x _ => 19 - (intOf x).toNat)
  case atStart => exact ⟨0, none, 0, by omega, rfl, rfl, Lib.hid (OwnD.nil _ _), Lib.hid (Below.refl _ _)⟩
  case round =>
    obtain ⟨k, A, c, hk, rfl, rfl, HO, HB⟩ := hrel
    have hfl := fsts_len s k
    by_cases hlt : k < 19
    · have hz := HB.out.size
      have C := ctag_first w.heap.size k s wr HS.out (by omega) (R0.out.keep (HB.out.block _ hz1')) (HK.out.keep ((HB.out.block 0 (by omega)).trans (HB1.out.block 0 hlt0)))
      have CC := Lib.hid C
      have HF := Lib.hid (fsts_succ s k)
      have HL := Lib.hid (show (fsts s (k + 1)).length = (fsts s k).length + 1 by rw [HF.out, List.length_append]; rfl)
      have hbd : (fsts s k).length ≤ 19 := by omega
      have h5 := fst5_len s k
      have H5 := Lib.hid h5
      clear C hfl h5
      generalize fsts s k = L at *
      generalize hF5 : fst5 s k = F5 at *
      clear hF5
      go_wp2_with fail
      refine CC.out.mono ?_
      rintro e w5 ⟨rfl, hb5⟩
      have hz5 := hb5.size
      have HOA := Lib.hid ((HO.out.step hb5).alloc (.cells (U F5).toArray 23))
      have HSRC := Lib.hid (show RowB (w5.alloc (.cells (U F5).toArray 23)) w5.heap.size 23 F5 from heap_alloc_new w5 _)
      have HB5 := Lib.hid (HB.out.trans (hb5.mono hz))
      clear CC hb5
      go_wp2_with (first
        | (refine bs_dig rfl (.tmp 13) rfl F5 rfl H5.out ?_)
        | (at_builtin; refine app_dig rfl (.tmp 7) (.tmp 14) rfl W1.heap.size w5.heap.size _ L F5 rfl rfl HOA.out HSRC.out H5.out (by omega) (by simp; omega) ?_; intro v6 w6 ho6 hg6; obtain ⟨A6, c6, e6⟩ := ho6.slice; subst e6; have HO6 := Lib.hid ho6; have HB6 := Lib.hid (below_ownD (HB5.out.alloc (by omega) _) hg6 HOA.out (Nat.le_refl _) (by simp; omega)); clear ho6 hg6))
      go_roundw
      case rel => exact ⟨k + 1, A6, c6, by omega, by rw [HL.out], rfl, Lib.hid (by rw [HF.out]; exact HO6.out), HB6⟩
      case measure => simp [intOf]; omega
    · obtain rfl : k = 19 := by omega
      go_wp2_with fail
      go_ret
      exact ⟨_, rfl, HO.out.low (by omega), HB1.out.trans (HB.out.mono (by omega))⟩
end
section
set_option maxRecDepth 100000
open Go.RowKit Go.Shelf

section
variable {F : Fence} {n : Nat} {ops : Array Oper} {rest : List Oper} {o : Oper} {a : Act} {w : World} {Q : Exit → Act → World → Prop}
theorem in_value (v : Value) (w' : World) (hg : o.guard = none) (ha : o.about Tryd.prog w a.eval = none) (hd : ∀ c, o.op ≠ .defer c) (hrun : (execOp a.eval o).run Tryd.prog w = .ok (.value v) w') (h : wpListIn F n Tryd.prog ops Q rest (a.put o.dst v) w') : wpListIn F n Tryd.prog ops Q (o :: rest) a w := by
  refine wpListIn_plain hg fun K hK => ?_
  unfold Oper.wpIn
  refine ⟨(fun f hf => by rw [ha] at hf; cases hf), ?_⟩
  rw [Oper.semAt_plain F _ _ hd, hrun]
  exact hK _ _ h
theorem in_skip (w' : World) (hg : o.guard = none) (ha : o.about Tryd.prog w a.eval = none) (hd : ∀ c, o.op ≠ .defer c) (hrun : (execOp a.eval o).run Tryd.prog w = .ok .skip w') (h : wpListIn F n Tryd.prog ops Q rest (a.put o.dst undef) w') : wpListIn F n Tryd.prog ops Q (o :: rest) a w := by
  refine wpListIn_plain hg fun K hK => ?_
  unfold Oper.wpIn
  refine ⟨(fun f hf => by rw [ha] at hf; cases hf), ?_⟩
  rw [Oper.semAt_plain F _ _ hd, hrun]
  exact hK _ _ h
theorem in_load (hg : o.guard = none) (x : Operand) (ho : o.op = .load 23 x) (b ofs : Nat) (d : List UInt8) (hx : a.eval x = .pointer (some ⟨b, ofs, none⟩)) (h : w.rangeAt b ofs (U d)) (hd : d.length = 32)
    (hK : wpListIn F n Tryd.prog ops Q rest (a.put o.dst (.agg (U d).toArray)) w) : wpListIn F n Tryd.prog ops Q (o :: rest) a w :=
  in_value _ w hg (by simp [Oper.about, ho]) (by rw [ho]; intro c hc; cases hc) (by
    unfold execOp
    simp only [ho, hx, Instr.loadAt, Instr.sureAddr, Sem.run_bind, Sem.run_pure, Result.andThen_ok, run_loadVar_mid w b ofs 23 (U d) _ h Tryd.underlying23 rfl (by rw [sz32, U_length, hd])]) hK
theorem in_store (hg : o.guard = none) (x y : Operand) (ho : o.op = .store 23 x y) (g : Nat) (l l' : List UInt8) (hx : a.eval x = .pointer (some ⟨g, 0, none⟩)) (hy : a.eval y = .agg (U l').toArray) (h : RowB w g 23 l) (hl : l.length = 32) (hl' : l'.length = 32)
    (hK : wpListIn F n Tryd.prog ops Q rest (a.put o.dst undef) (w.setRow g (U l').toArray)) : wpListIn F n Tryd.prog ops Q (o :: rest) a w :=
  in_skip _ hg (by simp [Oper.about, ho]) (by rw [ho]; intro c hc; cases hc) (by
    have h1 := run_storeVar_row (P := Tryd.prog) w g 23 23 _ (U l').toArray h (by rw [sz32, U_size, hl']) (by rw [U_size, U_size, hl, hl']) (U_ones l')
    unfold execOp
    simp only [ho, hx, hy, Instr.storeAt, Instr.sureAddr, Sem.run_bind, Sem.run_pure, Result.andThen_ok, h1]) hK
theorem in_bs (hg : o.guard = none) (x : Operand) (ho : o.op = .buildSlice 26 1 #[(0, x)]) (d : List UInt8) (hx : a.eval x = .agg (U d).toArray) (hd : d.length = 32)
    (hK : wpListIn F n Tryd.prog ops Q rest (a.put o.dst (.slice (some ⟨w.heap.size, 0, none⟩) 1 1)) (w.alloc (.cells (U d).toArray 23))) : wpListIn F n Tryd.prog ops Q (o :: rest) a w :=
  in_value _ _ hg (by simp [Oper.about, ho]) (by rw [ho]; intro c hc; cases hc) (by
    have h1 := run_bs d hd w
    unfold execOp
    simp [ho, hx, h1, Result.andThen]) hK
end

attribute [local go_sem] Oper.semAt_some

/-- a digest made of anything -/
def nz (x : List UInt8) : List UInt8 := if x.length = 32 then x else z32
theorem nz_len (x : List UInt8) : (nz x).length = 32 := by
  unfold nz
  split
  · assumption
  · rfl
theorem nz_eq (x : List UInt8) (h : x.length = 32) : nz x = x := if_pos h
def ED (x : List UInt8) : Array Value := #[.agg (U (nz x)).toArray]
/-- what is reached by so many steps -/
def rc (L : List (List UInt8)) (D : List Nat) (k : Nat) : List (List UInt8) := (List.range k).map fun i => sn (D.getD i 0) (L.getD i [])
theorem rc_len (L : List (List UInt8)) (D : List Nat) (k : Nat) : (rc L D k).length = k := by simp [rc]
theorem rc_succ (L : List (List UInt8)) (D : List Nat) (k : Nat) : rc L D (k + 1) = rc L D k ++ [sn (D.getD k 0) (L.getD k [])] := by simp [rc, List.range_succ]
theorem rc_pre (L : List (List UInt8)) (D : List Nat) (k m : Nat) (h : k ≤ m) : rc L D k <+: rc L D m := by
  obtain ⟨j, rfl⟩ : ∃ j, m = k + j := ⟨m - k, by omega⟩
  clear h
  induction j with
  | zero => exact List.prefix_refl _
  | succ j ih => rw [← Nat.add_assoc, rc_succ]; exact ih.trans (List.prefix_append _ _)

/-- these blocks are as they were -/
def KS (S : Nat → Prop) (W W' : World) : Prop := ∀ i, S i → W'.heap[i]? = W.heap[i]?
theorem KS.refl (S : Nat → Prop) (W : World) : KS S W W := fun _ _ => rfl
theorem KS.trans {S : Nat → Prop} {A B C : World} (h : KS S A B) (h' : KS S B C) : KS S A C := fun i hi => (h' i hi).trans (h i hi)
theorem KS.lt {S : Nat → Prop} {W W' : World} (h : KS S W W') {i : Nat} (hi : S i) (hl : i < W.heap.size) : i < W'.heap.size := by
  have h1 := h i hi
  rw [Array.getElem?_eq_getElem hl] at h1
  exact (Array.getElem?_eq_some_iff.1 h1).1
theorem ks_below {S : Nat → Prop} {W W' : World} {B : Nat} (h : Below B W W') (hS : ∀ i, S i → i < B) : KS S W W' := fun i hi => h.block i (hS i hi)

set_option maxRecDepth 100000 in
set_option maxHeartbeats 4000000 in
theorem reach1_in (n : Nat) (hn : 2 ≤ n) (l b1 b2 : Nat) (S : Nat → Prop) (L : List (List UInt8)) (A : Option Addr) (cap : Nat) (D : List Nat) (hL : L.length = 19) (hD : D.length = 19) (h3 : ∀ d ∈ D, d ≤ 3) (J Jx : List (List UInt8) → World → Prop)
    (hY : ∀ pre x W, J pre W → pre.length < 19 → YieldAt Fence.wide (n - 1) Tryd.prog l (ED x) W fun e W' =>
      (e = .returned (.bool true) ∧ J (pre ++ [x]) W' ∧ KS S W W') ∨ (e = .returned (.bool false) ∧ Jx (pre ++ [x]) W'))
    (hJd : ∀ pre W W', J pre W → Below W.heap.size W W' → J pre W')
    (W : World) (hS : ∀ i, S i → i < W.heap.size) (_hb1 : S b1) (hb2 : S b2) (h0n : S 0) (h1 : W.cell? ⟨b1, 0, none⟩ = some (.slice A L.length cap)) (h2 : RowN W b2 75 D) (hl : DL W S L A cap) (hk : KR W Kt) (h0 : J [] W) :
    CallsIn Fence.wide n Tryd.prog 96 #[.func (.yield l) #[] #[], .pointer (some ⟨b1, 0, none⟩), .pointer (some ⟨b2, 0, none⟩)] W fun e W' => (∃ v, e = .returned v) ∧
      ((∃ ys, ys = rc L D 19 ∧ J ys W') ∨ (∃ pre, pre <+: rc L D 19 ∧ Jx pre W')) := by
  have H1 := Lib.hid h1
  have H2 := Lib.hid h2
  have HL := Lib.hid hl
  have HK := Lib.hid hk
  have HD := Lib.hid hD
  have HLL := Lib.hid hL
  have H3 := Lib.hid h3
  have hcap := hl.1
  have hcm : cap ≤ 9223372036854775807 := hl.2.1
  clear h1 h2 hl hk hD h3
  rw [hL] at H1 hcap
  obtain ⟨b, ofs, rfl, hSb, _⟩ := HL.out.2.2.2.2 (by rw [hL]; omega)
  clear hL
  refine callsIn_of_wp Tryd.func96 rfl trivial ?_ rfl
  simp only [Tryd.ntmps96, List.size_toArray, List.length_cons, List.length_nil, Nat.reduceAdd, Nat.reduceSub, Array.replicate_succ, Array.replicate_zero, List.push_toArray, List.append_toArray, List.nil_append, List.cons_append]
  have c1 := H1.out
  gi_wp2
  clear c1
  gi_loopw [8] (fun x wr => ∃ (k : Nat), x = .int .i64 k ∧ k ≤ 19 ∧ Hid (KS S W wr) ∧ J (rc L D k) wr)
    (fun x _ => 19 - (intOf x).toNat)
  case atStart => exact ⟨0, rfl, by omega, Lib.hid (KS.refl _ _), h0⟩
  case round =>
    obtain ⟨k, rfl, hk, HB, hJ⟩ := hrel
    by_cases hlt : k < 19
    · obtain ⟨x, hx⟩ : ∃ x, L[k]? = some x := ⟨_, List.getElem?_eq_getElem (by rw [HLL.out]; exact hlt)⟩
      obtain ⟨d, hd⟩ : ∃ d, D[k]? = some d := ⟨_, List.getElem?_eq_getElem (by rw [HD.out]; exact hlt)⟩
      have hd3 := H3.out d (List.mem_of_getElem? hd)
      have hx32 := HL.out.2.2.2.1 x (List.mem_of_getElem? hx)
      have hz2 := HB.out.lt hb2 (hS _ hb2)
      have hz0 := HB.out.lt h0n (hS _ h0n)
      obtain ⟨b', ofs', e, _, hc⟩ := (HL.out.keep (S' := S) fun i hi => ⟨hi, HB.out i hi⟩).2.2.2.2 (by rw [HLL.out]; omega)
      injection e with e
      injection e with e1 e2
      subst e1 e2
      have hcx := hc k x hx
      have HX32 := Lib.hid hx32
      have HRC := Lib.hid (show rc L D (k + 1) = rc L D k ++ [sn d x] by rw [rc_succ, List.getD_eq_getElem?_getD, hd, List.getD_eq_getElem?_getD, hx]; rfl)
      have HDC := Lib.hid ((H2.out.keep (HB.out b2 hb2)).cell hd)
      clear hc hx hd hx32
      have b5 : (k : Int) < 19 := by omega
      have n5 : RowB (wr.alloc (.cells (U (flb 32 [])).toArray 23)) wr.heap.size 23 (flb 32 []) := heap_alloc_new wr _
      have HG := Lib.hid (show ∀ W5, (wr.alloc (.cells (U (flb 32 [])).toArray 23)).setRow wr.heap.size (U x).toArray = W5 → RowB W5 wr.heap.size 23 (sn 0 x) ∧ Below wr.heap.size wr W5 ∧ W5.heap.size = wr.heap.size + 1 ∧ W5.cell? ⟨b2, k, none⟩ = some (.int .i64 (d : Int)) from fun W5 h => by
        subst h
        have hb : Below wr.heap.size wr ((wr.alloc (.cells (U (flb 32 [])).toArray 23)).setRow wr.heap.size (U x).toArray) := below_setRow ((Below.refl _ _).alloc (Nat.le_refl _) _) (Nat.le_refl _) _
        exact ⟨n5.setRow x, hb, by simp, (hb.cell (p := ⟨b2, k, none⟩) (by show b2 < _; omega)).trans HDC.out⟩)
      gi_wp2_with (first
        | (refine in_load rfl (.tmp 11) rfl b (ofs + k * 32) x rfl hcx HX32.out ?_)
        | (refine in_store rfl (.tmp 5) (.tmp 12) rfl wr.heap.size (flb 32 []) x rfl rfl n5 (by simp [flb]) HX32.out ?_; generalize hW5 : (wr.alloc _).setRow _ _ = W5; obtain ⟨r5, hb5, hz5, hcd⟩ := HG.out W5 hW5; clear hW5 n5; have R5 := Lib.hid r5; have HB5 := Lib.hid hb5; have HZ5 := Lib.hid hz5; clear r5 hb5 hz5))
      clear hcd hcx
      obtain ⟨wo, hwo⟩ : ∃ wo : World, wo = wr := ⟨_, rfl⟩
      rw [← hwo] at HB5 R5 HZ5 HDC hJ hz2 hz0 HB ⊢
      clear hwo HG
      gi_loopw [16] (fun y wq => ∃ (j : Nat), y = .int .i64 j ∧ j ≤ d ∧ Hid (RowB wq wo.heap.size 23 (sn j x)) ∧ Hid (Below wo.heap.size wo wq) ∧ wo.heap.size < wq.heap.size)
        (fun y _ => d - (intOf y).toNat)
      case atStart => exact ⟨0, rfl, by omega, R5, HB5, by rw [HZ5.out]; omega⟩
      case round =>
        obtain ⟨j, rfl, hj, HR, HQ, hzq⟩ := hrel
        have HSN := Lib.hid (sn_len j x HX32.out)
        by_cases hjd : j < d
        · have C := ctag_step wo.heap.size (sn j x) wr HSN.out HR.out (HK.out.keep ((HQ.out.block 0 hz0).trans (HB.out 0 h0n)))
          have CC := Lib.hid ((callsIn_wide (n := n - 1)).2 C)
          clear C
          gi_wp2
          refine ⟨trivial, fun _ => (by omega), ?_⟩
          gi_at_call 91
          (with_reducible refine CC.out.mono ?_)
          rintro e w6 ⟨rfl, hb6⟩
          have hz6 := hb6.size
          have hr6 := HR.out.keep (hb6.block _ hzq)
          have HR7 := Lib.hid (hr6.setRow (sn (j + 1) x))
          have HB7 := Lib.hid (below_setRow (HQ.out.trans (hb6.mono (by omega))) (Nat.le_refl _) (U (sn (j + 1) x)).toArray)
          clear CC hb6
          gi_wp2_with (refine in_store rfl (.tmp 5) (.tmp 20) rfl wo.heap.size (sn j x) (sn (j + 1) x) rfl rfl hr6 HSN.out (sd_len _) ?_)
          go_roundw
          case rel => exact ⟨j + 1, rfl, by omega, HR7, HB7, by simp; omega⟩
          case measure => simp [intOf]; omega
        · have hjd2 : j = d := by omega
          rw [hjd2] at HR HSN ⊢
          clear hjd2 hjd hj
          have hJ2 := hJd _ wo wr hJ HQ.out
          have hrg := HR.out.range
          have HBQ := Lib.hid (HB.out.trans (ks_below HQ.out fun i hi => HB.out.lt hi (hS i hi)))
          obtain ⟨fn, tmps, assign, body, hy, hR⟩ := hY (rc L D k) (sn d x) wr hJ2 (by rw [rc_len]; exact hlt)
          unfold ED at hy
          rw [nz_eq _ HSN.out] at hy
          gi_wp2_with (refine in_load rfl (.tmp 5) rfl wo.heap.size 0 (sn d x) rfl hrg HSN.out ?_)
          refine ⟨fun _ => (by omega), hR.mono ?_⟩
          rintro e W3 (⟨rfl, hJ3, hk3⟩ | ⟨rfl, hJx3⟩)
          · rw [← HRC.out] at hJ3
            have HB3 := Lib.hid (HBQ.out.trans hk3)
            clear hR hk3 hrg
            gi_wp2
            go_roundw
            case rel => exact ⟨k + 1, by go_num, by omega, HB3, hJ3⟩
            case measure => simp [intOf]; omega
          · clear hR hrg
            gi_wp2
            refine bodyPost_ret (results_none rfl _ _ _) rfl ?_
            exact ⟨⟨_, rfl⟩, .inr ⟨rc L D k ++ [sn d x], by rw [← HRC.out]; exact rc_pre L D (k + 1) 19 (by omega), hJx3⟩⟩
    · obtain rfl : k = 19 := by omega
      gi_wp2
      go_end0
      exact ⟨⟨_, rfl⟩, .inl ⟨_, rfl, hJ⟩⟩

set_option maxHeartbeats 1000000 in
theorem reached_all (A : Option Addr) (n cap : Nat) (D : List Nat) (w : World) : Calls Tryd.prog 72 #[.slice A n cap, .agg (NI D).toArray] w fun e w' =>
    e = .returned (.func (.func 96) #[] #[.pointer (some ⟨w.heap.size, 0, none⟩), .pointer (some ⟨w.heap.size + 1, 0, none⟩)]) ∧
    w' = (w.alloc (.cells #[.slice A n cap] 26)).alloc (.cells (NI D).toArray 75) := by
  go_enter Tryd.func72, Tryd.ntmps72
  go_wp2_with fail
  go_ret
  exact ⟨by simp, rfl⟩
/-- the iterator hands over what is reached, in order -/
theorem reached_stops (n : Nat) (hn : 2 ≤ n) (b1 b2 : Nat) (S : Nat → Prop) (L : List (List UInt8)) (A : Option Addr) (cap : Nat) (D : List Nat) (hL : L.length = 19) (hD : D.length = 19) (h3 : ∀ d ∈ D, d ≤ 3)
    (w : World) (hS : ∀ i, S i → i < w.heap.size) (hb1 : S b1) (hb2 : S b2) (h0n : S 0) (h1 : w.cell? ⟨b1, 0, none⟩ = some (.slice A L.length cap)) (h2 : RowN w b2 75 D) (hl : DL w S L A cap) (hk : KR w Kt) :
    SeqStopsK Fence.wide n Tryd.prog 96 #[.pointer (some ⟨b1, 0, none⟩), .pointer (some ⟨b2, 0, none⟩)] ED (KS S) (fun ys => ys = rc L D 19) (fun pre => pre <+: rc L D 19) 19 w := fun l J Jx W hW hJ _ hY h0 =>
  reach1_in n hn l b1 b2 S L A cap D hL hD h3 J Jx hY (fun pre W1 W2 h hb => hJ pre W1 W2 none h ⟨hb.os, hb.tape, hb.output, hb.size, fun k hk _ => hb.block k hk⟩ (fun r e => by cases e)) W (fun i hi => Nat.lt_of_lt_of_le (hS i hi) hW.size) hb1 hb2 h0n
    ((hW.cell (p := ⟨b1, 0, none⟩) (hS _ hb1)).trans h1) (h2.keep (hW.block b2 (hS _ hb2))) (hl.keep fun i hi => ⟨hi, hW.block i (hS i hi)⟩) (hk.keep (hW.block 0 (hS _ h0n))) h0
theorem ks_put {S : Nat → Prop} {B : Nat} (hS : ∀ i, S i → i < B) (W : World) (l : Nat) (o' : Obj) (hl : B ≤ l) : KS S W (W.putObj l o') := fun i hi => World.putObj_heap_other (by have := hS i hi; omega)
end
section
set_option maxRecDepth 100000
open Go.RowKit Go.Shelf

attribute [local go_sem] Oper.semAt_some

theorem rowb_own (B : Nat) (x : List UInt8) : Go.Own (fun (_ : Unit) W => RowB W B 23 x) := fun s X Y row hs hg hrow =>
  (hg.block B (Array.getElem?_eq_some_iff.1 (show X.heap[B]? = _ from hs)).1 (fun e' => by obtain ⟨o, ho, hc⟩ := hrow B e'.symm; rw [show X.heap[B]? = _ from hs] at ho; cases ho; cases hc)).trans hs
theorem keeps_below {W W' : World} (hb : Below W.heap.size W W') : KeepsOthers W W' := ⟨hb.size, fun k _o hk _ => (hb.block k (Array.getElem?_eq_some_iff.1 hk).1).trans hk⟩
theorem owns_below {W W' : World} {b s k : Nat} {e : TypeId} {v : Value} {xs : List Value} (h : W.ownsRow b e s v k xs) (hb : Below W.heap.size W W') : W'.ownsRow b e s v k xs := by
  refine ⟨h.1, ?_⟩
  rcases h.2 with h | ⟨g, cap, cur, e, hg, hh, r⟩
  · exact .inl h
  · exact .inr ⟨g, cap, cur, e, hg, by rw [hb.block g (Array.getElem?_eq_some_iff.1 hh).1]; exact hh, r⟩
theorem Boxed.below {W W' : World} {B : Nat} {t : TypeId} {v : Value} (h : Boxed W B t v) (hb : Below W.heap.size W W') : Boxed W' B t v := (hb.block B h.lt).trans h
/-- the elements, made digests -/
def nzs (L : List (List UInt8)) : List (List UInt8) := L.map nz
theorem nzs_eq (L : List (List UInt8)) (h : ∀ d ∈ L, d.length = 32) : nzs L = L := by
  unfold nzs
  rw [List.map_congr_left (g := id) fun d hd => nz_eq d (h d hd), List.map_id]
theorem nzs_len (L : List (List UInt8)) : (nzs L).length = L.length := by simp [nzs]
theorem nzs_app (L M : List (List UInt8)) : nzs (L ++ M) = nzs L ++ nzs M := by simp [nzs]
theorem rc_dig (L : List (List UInt8)) (D : List Nat) (hL : ∀ d ∈ L, d.length = 32) (k : Nat) (hk : k ≤ L.length) : ∀ d ∈ rc L D k, d.length = 32 := by
  intro d hd
  obtain ⟨i, hi, rfl⟩ := List.mem_map.1 hd
  refine sn_len _ _ (hL _ ?_)
  have : i < L.length := by have := List.mem_range.1 hi; omega
  rw [List.getD_eq_getElem?_getD, List.getElem?_eq_getElem this]
  exact List.getElem_mem _

set_option maxRecDepth 100000 in
set_option maxHeartbeats 2000000 in
theorem appseq_in (n : Nat) (hn : 5 ≤ n) (b1 b2 : Nat) (L : List (List UInt8)) (A : Option Addr) (cap : Nat) (D : List Nat) (hL : L.length = 19) (hD : D.length = 19) (h3 : ∀ d ∈ D, d ≤ 3)
    (w : World) (hb1 : b1 < w.heap.size) (hb2 : b2 < w.heap.size) (h1 : w.cell? ⟨b1, 0, none⟩ = some (.slice A L.length cap)) (h2 : RowN w b2 75 D) (hl : DL w (· < w.heap.size) L A cap) (hk : KR w Kt) :
    CallsIn Fence.wide n Tryd.prog 94 #[.slice none 0 0, .func (.func 96) #[] #[.pointer (some ⟨b1, 0, none⟩), .pointer (some ⟨b2, 0, none⟩)]] w fun e W' => ∃ v, e = .returned v ∧ OwnD W' w.heap.size v (rc L D 19) ∧ Below w.heap.size w W' := by
  have hn1 : 1 ≤ n := by omega
  obtain ⟨i0, hi, hz0, hz1, hz2⟩ := info_parts info_d
  have HRD := Lib.hid (rc_dig L D hl.2.2.2.1 19 (by omega))
  have hlt0 := hk.lt
  refine callsIn_of_wp_marks Tryd.func94 rfl trivial ?_ rfl
  simp only [Tryd.ntmps94, List.size_toArray, List.length_cons, List.length_nil, Nat.reduceAdd, Nat.reduceSub, Array.replicate_succ, Array.replicate_zero, List.push_toArray, List.append_toArray, List.nil_append, List.cons_append]
  have H1 := Lib.hid h1
  have H2 := Lib.hid h2
  have HL := Lib.hid hl
  have HK := Lib.hid hk
  have HLL := Lib.hid hL
  have HDD := Lib.hid hD
  have H3 := Lib.hid h3
  clear h1 h2 hl hk hL hD h3
  gi_wp2
  have bO := Boxed.new w 26 (.slice none 0 0)
  have hB0 : Below w.heap.size w (w.alloc (.cells #[.slice none 0 0] 26)) := (Below.refl _ w).alloc (Nat.le_refl _) _
  refine wpIn_rangeFunc_ownH rfl hn1 (gf := 96) (lb := #[.pointer (some ⟨b1, 0, none⟩), .pointer (some ⟨b2, 0, none⟩)]) rfl trivial (enters_of Tryd.func96 (by kernel_rfl) rfl)
    (reached_stops (n - 1) (by omega) b1 b2 (· < w.heap.size) L A cap D HLL.out HDD.out H3.out _ (fun i hi => Nat.lt_of_lt_of_le hi hB0.size) hb1 hb2 hlt0 ((hB0.cell (p := ⟨b1, 0, none⟩) hb1).trans H1.out) (H2.out.keep (hB0.block b2 hb2)) (HL.out.keep fun i hi => ⟨hi, hB0.block i hi⟩) (HK.out.keep (hB0.block 0 hlt0))) KS.trans (fun W l o o' hl _ _ _ => ks_put (B := w.heap.size) (fun i hi => hi) W l o' (Nat.le_trans hB0.size hl)) (Below.refl _ _) (fun _ => rfl)
    (fun (pre : List (List UInt8)) W => (∃ v, Boxed W w.heap.size 26 v ∧ W.ownsRow w.heap.size 23 32 v pre.length ((nzs pre).flatMap U) ∧ True) ∧ Below w.heap.size w W)
    (fun _ _ _ => False)
    (OwnFrom.and (Go.Own.from (holdsRow_own w.heap.size w.heap.size 26 23 32 (fun (pre : List (List UInt8)) => pre.length) (fun pre => (nzs pre).flatMap U) (fun _ _ => True)) _) (ownFrom_below (Nat.le_refl _) (by simp)))
    (fun _ _ _ _ _ hs _ _ => hs)
    ⟨⟨_, bO, World.ownsRow_nil _ _ _ _, trivial⟩, hB0⟩
    (fun x a' W => ∃ Bx, w.heap.size < Bx ∧ RowB W Bx 23 (nz x) ∧ a' = { tmps := #[.slice none 0 0, .func (.func 96) #[] #[.pointer (some ⟨b1, 0, none⟩), .pointer (some ⟨b2, 0, none⟩)], .pointer (some ⟨w.heap.size, 0, none⟩), undef, .slice none 0 0, .pointer (some ⟨Bx, 0, none⟩), .func (.func 96) #[] #[.pointer (some ⟨b1, 0, none⟩), .pointer (some ⟨b2, 0, none⟩)], .agg (U (nz x)).toArray, undef, undef, undef, undef, undef], defers := [] })
    (fun x a' _ X Y row hs hg hr => by obtain ⟨Bx, h1, h2, h3⟩ := hs; exact ⟨Bx, h1, rowb_own Bx (nz x) () X Y row h2 hg (fun r e => (hr r e).2), h3⟩)
    ?assign ?body ?done ?stop
  case assign =>
    rintro l pre x W K ⟨⟨v, hv, hrow, _⟩, hB1⟩ hK
    unfold ED
    have hx := nz_len x
    have HX := Lib.hid hx
    generalize nz x = X at *
    clear hx
    have n5 : RowB (W.alloc (.cells (U (flb 32 [])).toArray 23)) W.heap.size 23 (flb 32 []) := heap_alloc_new W _
    gi_wp2_with (refine in_store rfl (.tmp 5) (.tmp 7) rfl W.heap.size (flb 32 []) X rfl rfl n5 (by simp [flb]) HX.out ?_)
    have hb5 : Below W.heap.size W ((W.alloc (.cells (U (flb 32 [])).toArray 23)).setRow W.heap.size (U X).toArray) := below_setRow ((Below.refl _ _).alloc (Nat.le_refl _) _) (Nat.le_refl _) _
    exact hK _ _ ((keeps_below hb5).from _) (ks_below hb5 fun i hi => Nat.lt_of_lt_of_le hi hB1.size) ⟨⟨v, Boxed.below hv hb5, owns_below hrow hb5, trivial⟩, hB1.trans (hb5.mono hB1.size)⟩ ⟨W.heap.size, hv.lt, n5.setRow X, rfl⟩
  case body =>
    rintro l pre x a' W hl _ ⟨⟨v, hv, hrow, _⟩, hB1⟩ ⟨Bx, hBx, bX, rfl⟩ hlt
    have hx := nz_len x
    have HX := Lib.hid hx
    have HNP := Lib.hid (show (nzs (pre ++ [x])).flatMap U = (nzs pre).flatMap U ++ U (nz x) by rw [nzs_app, List.flatMap_append]; simp [nzs])
    generalize nz x = X at *
    clear hx
    have hc := hv.cell
    have hrg := bX.range
    have hsz := hB1.size
    have HN6 := Lib.hid (show ∀ j u, (U X)[j]? = some u → (W.alloc (.cells (U X).toArray 23)).cell? ((⟨W.heap.size, 0, none⟩ : Addr).add j) = some u from fun j u hu => by
      rw [Go.WideShapes.add_plain, Nat.zero_add, cell_of_row _ W.heap.size j _ _ _ (heap_alloc_new W _)]
      simpa using hu)
    gi_wp2_with (first
      | (refine in_load rfl (.tmp 5) rfl Bx 0 X rfl hrg HX.out ?_)
      | (refine in_bs rfl (.tmp 9) rfl X rfl HX.out ?_)
      | (gi_at_builtin; refine wpListIn_append_own _ rfl _ _ 26 rfl w.heap.size 23 i0 (.agg (U z32).toArray) 32 32 Tryd.underlying26 hi hz0 hz1 hz2 rfl (by decide) _ _ _ rfl (hrow.alloc _) ⟨W.heap.size, 0, none⟩ 1 1 (U X) rfl (by rw [U_length, HX.out]) HN6.out (U_one X) (by unfold maxLen; omega) (by omega) (by simp; omega) ?_; intro v' w1 hown' hgrow _; obtain ⟨g', cap', rfl⟩ := ownsRow_succ hown'; obtain ⟨hv1, hv2, hr2, hk2, hb2⟩ := hv.appended (by decide) hrow hB1.size (Nat.le_refl _) hown' hgrow; have hc1 := hv1.cell; have hf1 := hv1.frozen))
    refine ⟨hk2.from _, ks_below hb2 fun i hi => hi, ⟨_, hv2, ?_⟩, hB1.trans hb2⟩
    have hr3 := hr2
    rw [← HNP.out] at hr3
    rw [List.length_append]
    exact hr3
  case done =>
    rintro D' ys W hD' rfl ⟨⟨v, hv, hrow, _⟩, hB1⟩ hK
    have hc := hv.cell
    gi_wp2
    refine ⟨by simp, .inl ⟨_, _, rfl, run_takeDeferred hK, ?_⟩⟩
    rw [nzs_eq _ HRD.out] at hrow
    exact ⟨_, results_tmp rfl _ _ _, v, rfl, ⟨ownsRow_putObj hrow _ hK rfl, HRD.out⟩, hB1.trans (belowK_b (w := w) (Nat.le_refl _) W D' _ _ (by simp at hD'; omega) hK rfl rfl)⟩
  case stop =>
    rintro D' c pre W _ _ h _
    exact h.elim

set_option maxHeartbeats 1000000 in
theorem collect_all (b1 b2 : Nat) (L : List (List UInt8)) (A : Option Addr) (cap : Nat) (D : List Nat) (hL : L.length = 19) (hD : D.length = 19) (h3 : ∀ d ∈ D, d ≤ 3)
    (w : World) (hb1 : b1 < w.heap.size) (hb2 : b2 < w.heap.size) (h1 : w.cell? ⟨b1, 0, none⟩ = some (.slice A L.length cap)) (h2 : RowN w b2 75 D) (hl : DL w (· < w.heap.size) L A cap) (hk : KR w Kt) :
    Calls Tryd.prog 66 #[.func (.func 96) #[] #[.pointer (some ⟨b1, 0, none⟩), .pointer (some ⟨b2, 0, none⟩)]] w fun e W' => ∃ v, e = .returned v ∧ OwnD W' w.heap.size v (rc L D 19) ∧ Below w.heap.size w W' := by
  have C := Lib.hid (callsIn_wide.1 (appseq_in 5 (Nat.le_refl _) b1 b2 L A cap D hL hD h3 w hb1 hb2 h1 h2 hl hk))
  clear h1 h2 hl hk hD hL h3
  go_enter Tryd.func66, Tryd.ntmps66
  go_wp2_with fail
  refine C.out.mono ?_
  rintro e w2 ⟨v, rfl, ho, hb⟩
  go_wp2_with fail
  go_ret
  exact ⟨v, rfl, ho, hb⟩
end
section
set_option maxRecDepth 100000
open Go.RowKit

theorem enters_firsts : Enters Tryd.prog 59 := enters_of Tryd.func59 (by kernel_rfl) rfl
theorem enters_digitsOf : Enters Tryd.prog 56 := enters_of Tryd.func56 (by kernel_rfl) rfl
theorem enters_reached : Enters Tryd.prog 72 := enters_of Tryd.func72 (by kernel_rfl) rfl
theorem enters_Collect : Enters Tryd.prog 66 := enters_of Tryd.func66 (by kernel_rfl) rfl

/-- the signature -/
def sgn (s m : List UInt8) : List (List UInt8) := rc (fsts s 19) (dgl m) 19
theorem sgn_len (s m : List UInt8) : (sgn s m).length = 19 := rc_len _ _ _
theorem fsts_dig (s : List UInt8) (n : Nat) : ∀ d ∈ fsts s n, d.length = 32 := by
  intro d hd
  obtain ⟨i, _, rfl⟩ := List.mem_map.1 hd
  exact fst5_len _ _
theorem sgn_dig (s m : List UInt8) : ∀ d ∈ sgn s m, d.length = 32 := rc_dig _ _ (fsts_dig s 19) 19 (by rw [fsts_len]; omega)
theorem signed_boxes (A : Option Addr) (c : Nat) (_L : List (List UInt8)) (D : List Nat) (w w7 : World) (h : w7 = (w.alloc (.cells #[.slice A 19 c] 26)).alloc (.cells (NI D).toArray 75)) :
    (w7.cell? ⟨w.heap.size, 0, none⟩ = some (.slice A 19 c) ∧ RowN w7 (w.heap.size + 1) 75 D) ∧ w7.heap.size = w.heap.size + 2 ∧ Below w.heap.size w w7 := by
  obtain ⟨k0, k1, hb, hz⟩ := box2 w #[.slice A 19 c] (NI D).toArray 26 75 w7 h.symm
  exact ⟨⟨cell_of_row w7 w.heap.size 0 _ _ _ k0, k1⟩, hz, hb⟩
theorem OwnD.dlw {w : World} {b n : Nat} {A : Option Addr} {c : Nat} {L : List (List UInt8)} (h : OwnD w b (.slice A n c) L) (_hn : L.length = n) : DL w (· < w.heap.size) L A c := by
  obtain ⟨A', c', e, hd⟩ := h.dl
  injection e with e1 _ e3
  subst e1 e3
  exact hd.keep fun i hi => ⟨hi.2, rfl⟩

set_option maxRecDepth 100000 in
set_option maxHeartbeats 3200000 in
theorem sign_all (s m : List UInt8) (w : World) (hs : s.length = 32) (hm : m.length = 32) (hk : KR w Kt) :
    Calls Tryd.prog 38 #[.agg (U s).toArray, .agg (U m).toArray] w fun e w' => ∃ v, e = .returned v ∧ OwnD w' w.heap.size v (sgn s m) ∧ Below w.heap.size w w' := by
  have HS := Lib.hid hs
  have HM := Lib.hid hm
  have HK := Lib.hid hk
  have hlt0 := hk.lt
  clear hs hm hk
  go_enter Tryd.func38, Tryd.ntmps38
  go_wp2_with fail
  generalize hW1 : (w.alloc _).alloc _ = W1
  obtain ⟨h0, h1, hb1, hz1⟩ := box2 w (U s).toArray (U m).toArray 23 23 W1 hW1
  clear hW1
  have KEEP := Lib.hid (show ∀ ww, Below W1.heap.size W1 ww → RowB ww w.heap.size 23 s ∧ RowB ww (w.heap.size + 1) 23 m ∧ KR ww Kt ∧ Below w.heap.size w ww from fun ww h =>
    ⟨(h.block _ (by omega)).trans h0, (h.block _ (by omega)).trans h1, HK.out.keep ((h.block 0 (by omega)).trans (hb1.block 0 hlt0)), hb1.trans (h.mono (by omega))⟩)
  have STEP := Lib.hid (show ∀ ww w', Below W1.heap.size W1 ww → Below ww.heap.size ww w' → Below W1.heap.size W1 w' from fun ww w' h1 h2 => h1.trans (h2.mono h1.size))
  have hzw : w.heap.size ≤ W1.heap.size := by omega
  have hbx : Below W1.heap.size W1 W1.drew := (Below.refl _ _).drew
  clear h0 h1 hb1 hz1
  refine wp_region_noPanic ?_
  refine wp_region_held_drew (S := fun ww => Below W1.heap.size W1 ww) (by kernel_rfl) hbx (fun hHeld => ?_)
  refine tk_load 0 5 (.tmp 2) w.heap.size 0 s rfl (by kernel_rfl) (by kernel_rfl) (by kernel_rfl) (fun _ _ _ _ h => h) rfl rfl rfl rfl (fun ww h => (KEEP.out ww h).1.range) HS.out hHeld ?_
  simp only [Act.put, List.setIfInBounds_toArray, List.set_cons_zero, List.set_cons_succ]
  refine tk_load 2 7 (.tmp 3) (w.heap.size + 1) 0 m rfl (by kernel_rfl) (by kernel_rfl) (by kernel_rfl) (fun _ _ _ _ h => h) rfl rfl rfl rfl (fun ww h => (KEEP.out ww h).2.1.range) HM.out hHeld ?_
  simp only [Act.put, List.setIfInBounds_toArray, List.set_cons_zero, List.set_cons_succ]
  clear hHeld
  generalize W1.drew = V0 at hbx ⊢
  refine lone 1 (by kernel_rfl) rfl (fun K hK => to_call 59 6 _ _ #[.agg (U s).toArray] _ rfl rfl rfl rfl enters_firsts (firsts_all s V0 HS.out (KEEP.out _ hbx).2.2.1) (fun e w5 h5 => ?_))
  obtain ⟨v5, h51, h52, h53⟩ := h5
  obtain ⟨A, c, rfl⟩ := h52.slice
  rw [fsts_len] at h51 h52
  refine ⟨_, h51, ?_⟩
  have hx5 := STEP.out _ _ hbx h53
  have HO5 := Lib.hid (h52.low hbx.size)
  refine hK _ _ hx5 ?_
  simp only [Act.put, List.setIfInBounds_toArray, List.set_cons_zero, List.set_cons_succ]
  clear hK h52
  refine lone 3 (by kernel_rfl) rfl (fun K3 hK3 => to_call 56 8 _ _ #[.agg (U m).toArray] _ rfl rfl rfl rfl enters_digitsOf (digitsOf_all m w5 HM.out) (fun e w6 h6 => ⟨_, h6.1, ?_⟩))
  have hx6 := STEP.out _ _ hx5 h6.2
  have HO6 := Lib.hid (HO5.out.step h6.2)
  refine hK3 _ _ hx6 ?_
  simp only [Act.put, List.setIfInBounds_toArray, List.set_cons_zero, List.set_cons_succ]
  clear h6 h53 HO5
  refine lone 4 (by kernel_rfl) rfl (fun K4 hK4 => to_call 72 9 _ _ #[.slice A 19 c, .agg (NI (dgl m)).toArray] _ rfl rfl rfl rfl enters_reached (reached_all A 19 c (dgl m) w6) (fun e w7 h7 => ⟨_, h7.1, ?_⟩))
  obtain ⟨B7, hs7, hb7⟩ := signed_boxes A c (fsts s 19) (dgl m) w6 w7 h7.2
  clear h7
  have hx7 := STEP.out _ _ hx6 hb7
  refine hK4 _ _ hx7 ?_
  simp only [Act.put, List.setIfInBounds_toArray, List.set_cons_zero, List.set_cons_succ]
  refine lone 5 (by kernel_rfl) rfl (fun K5 hK5 => to_call 66 10 _ _ #[.func (.func 96) #[] #[.pointer (some ⟨w6.heap.size, 0, none⟩), .pointer (some ⟨w6.heap.size + 1, 0, none⟩)]] _ rfl rfl rfl rfl enters_Collect (collect_all w6.heap.size (w6.heap.size + 1) (fsts s 19) A c (dgl m) (fsts_len s 19) (dgl_len m) (dgl_le m) w7 (by omega) (by omega) B7.1 B7.2 ((HO6.out.step hb7).dlw (fsts_len s 19)) (KEEP.out _ hx7).2.2.1) (fun e w8 h8 => ?_))
  obtain ⟨v8, h81, h82, h83⟩ := h8
  refine ⟨v8, h81, ?_⟩
  have hx8 := STEP.out _ _ hx7 h83
  have hfin := (KEEP.out _ hx8).2.2.2
  have HO8 := Lib.hid (h82.low (show w.heap.size ≤ w7.heap.size by have := hx7.size; omega))
  refine hK5 _ _ hx8 ?_
  simp only [Act.put, List.setIfInBounds_toArray, List.set_cons_zero, List.set_cons_succ]
  refine tk_assign 6 4 (.tmp 10) v8 rfl (by kernel_rfl) (by kernel_rfl) (by kernel_rfl) (fun _ _ _ _ h => h) rfl rfl rfl rfl hx8 ?_
  simp only [Act.put, List.setIfInBounds_toArray, List.set_cons_zero, List.set_cons_succ]
  refine wpAnyH_done (by kernel_rfl) (NoPanic.normal ?_) _
  have HF := Lib.hid hfin
  clear hfin h82 h83 hx8 hx7 hb7 B7
  go_wp2_with fail
  go_ret
  exact ⟨v8, rfl, HO8.out, HF.out⟩
end
end Go.Proofs.YteicbdjennjcdaaDoor
