/- Digest: the bytes of a state; the first state. -/
import Derived.Test.YtllkkafajchioaaDoorHF
import Derived.Test.YtllkkafajchioaaDoorHE
namespace Go.Proofs.YtllkkafajchioaaDoor
open Go.RowKit

theorem U_set (l : List UInt8) (i : Nat) (x : UInt8) : (U l).set i (.int .u8 x.toNat) = U (l.set i x) := by simp [U, List.map_set]
/-- a row of bytes at block b -/
def RowB (w : World) (b : Nat) (t : TypeId) (l : List UInt8) : Prop := w.heap[b]? = some (.cells (U l).toArray t (0, 0))
theorem RowB.cell {w : World} {b : Nat} {t : TypeId} {l : List UInt8} (h : RowB w b t l) {i : Nat} {x : UInt8} (hx : l[i]? = some x) : w.cell? ⟨b, i, none⟩ = some (.int .u8 x.toNat) := by
  rw [cell_of_row w b i _ _ _ h]
  simp [U, hx]
theorem RowB.set {w : World} {b : Nat} {t : TypeId} {l : List UInt8} (h : RowB w b t l) (i : Nat) (x : UInt8) : RowB (w.setCell ⟨b, i, none⟩ (.int .u8 x.toNat)) b t (l.set i x) := by
  have h' : w.heap[b]? = some (.cells (U l).toArray t (0, 0)) := h
  rw [setCell_eq_setRow w b i _ t _ _ h']
  show (w.setRow b _).heap[b]? = _
  rw [setRow_heap w b _ _ t _ h']
  simp [← U_set]
theorem RowB.frozen {w : World} {b : Nat} {t : TypeId} {l : List UInt8} (h : RowB w b t l) (i : Nat) : w.frozen? ⟨b, i, none⟩ = false := frozen_of_row w b i _ t h
theorem RowB.lt {w : World} {b : Nat} {t : TypeId} {l : List UInt8} (h : RowB w b t l) : b < w.heap.size := (Array.getElem?_eq_some_iff.1 h).1
theorem RowB.keep {w w' : World} {b : Nat} {t : TypeId} {l : List UInt8} (h : RowB w b t l) (hk : w'.heap[b]? = w.heap[b]?) : RowB w' b t l := hk.trans h
theorem RowB.setRow {w : World} {b : Nat} {t : TypeId} {l : List UInt8} (h : RowB w b t l) (m : List UInt8) : RowB (w.setRow b (U m).toArray) b t m := setRow_heap w b _ _ t _ h
def flb (n : Nat) (l : List UInt8) : List UInt8 := l ++ List.replicate (n - l.length) 0
theorem flb_set (n : Nat) (l : List UInt8) (x : UInt8) (h : l.length < n) : (flb n l).set l.length x = flb n (l ++ [x]) := by
  unfold flb
  rw [List.set_append_right _ _ (Nat.le_refl _), Nat.sub_self, List.length_append, List.length_singleton, show n - l.length = (n - (l.length + 1)) + 1 from by omega, List.replicate_succ, List.set_cons_zero, List.append_assoc]
  rfl
theorem flb_full (n : Nat) (l : List UInt8) (h : l.length = n) : flb n l = l := by
  unfold flb; rw [h, Nat.sub_self]; simp
theorem flb_next (n : Nat) (l : List UInt8) (h : l.length < n) : (flb n l)[l.length]? = some 0 := by
  unfold flb
  rw [List.getElem?_append_right (Nat.le_refl _), Nat.sub_self, show n - l.length = (n - l.length - 1) + 1 from by omega, List.replicate_succ]
  rfl
theorem RowB.next {w : World} {b n : Nat} {t : TypeId} {l : List UInt8} (h : RowB w b t (flb n l)) (hn : l.length < n) (x : UInt8) : RowB (w.setCell ⟨b, l.length, none⟩ (.int .u8 x.toNat)) b t (flb n (l ++ [x])) := by
  have := h.set l.length x
  rwa [flb_set n l x hn] at this
theorem U_ones (l : List UInt8) : (U l).toArray.all (·.oneCell') = true := by
  rw [Array.all_eq_true_iff_forall_mem]
  intro v hv
  exact U_one l v (by simpa using hv)
theorem U_size (l : List UInt8) : (U l).toArray.size = l.length := by simp [U]
theorem sz32 : (Tryd.prog.info? 23).map (·.size) = some 32 := by kernel_rfl

theorem load_B {ops : Array Oper} {rest : List Oper} {o : Oper} {a : Act} {w : World} {Q : Exit → Act → World → Prop} (hgd : o.guard = none) (x : Operand) (ho : o.op = .load 23 x)
    (g : Nat) (hx : a.eval x = .pointer (some ⟨g, 0, none⟩)) (t : TypeId) (l : List UInt8) (h : RowB w g t l) (hl : l.length = 32)
    (hK : wpList Tryd.prog ops Q rest (a.put o.dst (.agg (U l).toArray)) w) : wpList Tryd.prog ops Q (o :: rest) a w :=
  wpList_load_row hgd 23 x ho g hx t _ (0, 0) _ h Tryd.underlying23 rfl (by rw [sz32, U_size, hl]) hK
theorem store_B {ops : Array Oper} {rest : List Oper} {o : Oper} {a : Act} {w : World} {Q : Exit → Act → World → Prop} (hgd : o.guard = none) (x y : Operand) (ho : o.op = .store 23 x y)
    (g : Nat) (l l' : List UInt8) (hx : a.eval x = .pointer (some ⟨g, 0, none⟩)) (hy : a.eval y = .agg (U l').toArray) (t : TypeId) (h : RowB w g t l) (hl : l'.length = 32) (hl0 : l.length = 32)
    (hK : wpList Tryd.prog ops Q rest (a.put o.dst undef) (w.setRow g (U l').toArray)) : wpList Tryd.prog ops Q (o :: rest) a w :=
  wpList_store_row hgd 23 x y ho g _ hx hy t _ h (by rw [sz32, U_size, hl]) (by rw [U_size, U_size, hl, hl0]) (U_ones l') hK
theorem store_BS {ops : Array Oper} {rest : List Oper} {o : Oper} {a : Act} {w : World} {Q : Exit → Act → World → Prop} (hgd : o.guard = none) (x y : Operand) (ho : o.op = .store 23 x y)
    (g : Nat) (l : List UInt8) (hx : a.eval x = .pointer (some ⟨g, 0, none⟩)) (hy : a.eval y = .agg (U l).toArray) (t : TypeId) (h : RowB w g t l) (hl : l.length = 32)
    (hK : wpList Tryd.prog ops Q rest (a.put o.dst undef) w) : wpList Tryd.prog ops Q (o :: rest) a w :=
  store_B hgd x y ho g l l hx hy t h hl hl (by rw [setRow_self w g _ t _ h]; exact hK)
theorem res_B {fn : Func} {p : Tmp} (h : fn.results = #[.cell p 23]) (tmps : Array Value) (w : World) (g : Nat) (t : TypeId) (l : List UInt8)
    (hp : tmps.getD p undef = .pointer (some ⟨g, 0, none⟩)) (hg : RowB w g t l) (hl : l.length = 32) :
    (results fn tmps).run Tryd.prog w = .ok (.agg (U l).toArray) w :=
  results_cell_row h tmps w g t _ (0, 0) _ hp hg Tryd.underlying23 rfl (by rw [sz32, U_size, hl])

/-- byte i of the words -/
def dby (l : List UInt32) (i : Nat) : UInt8 := UInt8.ofNat ((gw l (i / 4)).toNat / 2 ^ (24 - i % 4 * 8))
def dbs (l : List UInt32) (n : Nat) : List UInt8 := (List.range n).map (dby l)
theorem dby_eq (l : List UInt32) (t : Nat) : I (gw l (t / 4)) / 2 ^ (24 - t % 4 * 8) % 256 = ((dby l t).toNat : Int) := by
  unfold I
  rw [dby, UInt8.toNat_ofNat', Int.natCast_emod, Int.natCast_ediv, Int.natCast_pow]
  rfl
theorem dbs_len (l : List UInt32) (n : Nat) : (dbs l n).length = n := by simp [dbs]
theorem dbs_succ (l : List UInt32) (n : Nat) : dbs l (n + 1) = dbs l n ++ [dby l n] := by simp [dbs, List.range_succ]

set_option maxRecDepth 100000 in
set_option maxHeartbeats 1600000 in
theorem digest_all (s : S8) (sb : Nat) (w : World) (hs : Row w sb 66 s.l) :
    Calls Tryd.prog 49 #[.pointer (some ⟨sb, 0, none⟩)] w fun e w' => e = .returned (.agg (U (dbs s.l 32)).toArray) ∧ Below w.heap.size w w' := by
  have hlt := hs.lt
  have hz : RowB (w.alloc (.cells (U (flb 32 (dbs s.l 0))).toArray 23)) w.heap.size 23 (flb 32 (dbs s.l 0)) := heap_alloc_new w _
  have HS := Lib.hid hs
  clear hs
  have HZ := Lib.hid hz
  clear hz
  go_enter Tryd.func49, Tryd.ntmps49
  go_wp2_with fail
  go_loopw [4] (fun x wr => ∃ t : Nat, x = .int .i64 t ∧ t ≤ 32 ∧ RowB wr w.heap.size 23 (flb 32 (dbs s.l t)) ∧ Below w.heap.size w wr) (fun x _ => 32 - (intOf x).toNat)
  case atStart => exact ⟨0, rfl, by omega, HZ.out, (Below.refl _ _).alloc (Nat.le_refl _) _⟩
  case round =>
    obtain ⟨t, rfl, ht, hrow, hbl⟩ := hrel
    by_cases hlt : t < 32
    · have hc := (HS.out.keep (hbl.block sb ‹_›)).cell (gw_get s.l (t / 4) (by show t / 4 < 8; omega))
      have h0 := flb_next 32 (dbs s.l t) (by rw [dbs_len]; exact hlt)
      rw [dbs_len] at h0
      have hc2 := hrow.cell h0
      have hf2 := hrow.frozen t
      have HROW := Lib.hid hrow
      have HBL := Lib.hid hbl
      clear hrow hbl h0
      have b1 : (t : Int) < 32 := by omega
      go_wp2_with fail
      go_roundw
      case rel =>
        refine ⟨t + 1, rfl, by omega, ?_, HBL.out.setCell (Nat.le_refl _) _⟩
        have h := RowB.next HROW.out (by rw [dbs_len]; exact hlt) (dby s.l t)
        rw [dbs_len, ← dbs_succ] at h
        rw [dby_eq]
        exact h
      case measure => simp [intOf]; omega
    · obtain rfl : t = 32 := by omega
      have hfin : RowB wr w.heap.size 23 (dbs s.l 32) := by rw [flb_full _ _ (dbs_len _ 32)] at hrow; exact hrow
      have HBL := Lib.hid hbl
      clear hrow hbl
      go_wp2_with (first | (refine load_B rfl (.tmp 2) rfl w.heap.size rfl 23 (dbs s.l 32) hfin (dbs_len _ 32) ?_) | (refine store_BS rfl (.tmp 2) (.tmp 22) rfl w.heap.size (dbs s.l 32) rfl rfl 23 hfin (dbs_len _ 32) ?_))
      exact bodyPost_ret (res_B rfl _ _ _ _ _ rfl hfin (dbs_len _ 32)) rfl ⟨rfl, HBL.out⟩

/-- the first state -/
def iv : S8 := ⟨0x6a09e667, 0xbb67ae85, 0x3c6ef372, 0xa54ff53a, 0x510e527f, 0x9b05688c, 0x1f83d9ab, 0x5be0cd19⟩

set_option maxRecDepth 100000 in
set_option maxHeartbeats 1600000 in
theorem initial_all (w : World) : Calls Tryd.prog 45 #[] w fun e w' => e = .returned (.agg (R32 iv.l).toArray) ∧ Below w.heap.size w w' := by
  have hz : Row (w.alloc (.cells (R32 (fl 8 [])).toArray 66)) w.heap.size 66 (fl 8 []) := heap_alloc_new w _
  have hz2 := hz.setRow iv.l
  go_enter Tryd.func45, Tryd.ntmps45
  go_wp2_with (refine store_R rfl 66 (.tmp 0) (.tmp 1) rfl w.heap.size (fl 8 []) iv.l rfl rfl 66 8 hz sz8 rfl rfl ?_)
  exact bodyPost_ret (res_R rfl _ _ _ _ _ _ _ _ rfl hz2 Tryd.underlying66 sz8 rfl) rfl ⟨rfl, below_setRow ((Below.refl _ _).alloc (Nat.le_refl _) _) (Nat.le_refl _) _⟩
end Go.Proofs.YtllkkafajchioaaDoor
