/- Digest: the words of a block. -/
import Derived.Test.YtllkkafajchioaaDoorHA
import Derived.Lib.Hide
namespace Go.Proofs.YtllkkafajchioaaDoor
open Go.RowKit

theorem U_length (l : List UInt8) : (U l).length = l.length := by simp [U]
theorem U_append (l m : List UInt8) : U (l ++ m) = U l ++ U m := by simp [U]
theorem U_get (l : List UInt8) (i : Nat) : (U l)[i]? = (l[i]?).map fun b => Value.int .u8 b.toNat := by simp [U]

/-- a slice of bytes that reads as l; its cells are in blocks of S -/
def Byt (w : World) (S : Nat → Prop) (l : List UInt8) (A : Option Addr) (cap : Nat) : Prop :=
  l.length ≤ cap ∧ cap ≤ maxLen ∧ (A = none → cap = 0) ∧ (0 < l.length → ∃ b o, A = some ⟨b, o, none⟩ ∧ S b ∧ ∀ i u, (U l)[i]? = some u → w.cell? ⟨b, o + i, none⟩ = some u)
theorem Byt.keep {w w' : World} {S S' : Nat → Prop} {l : List UInt8} {A : Option Addr} {cap : Nat} (h : Byt w S l A cap) (hs : ∀ i, S i → S' i ∧ w'.heap[i]? = w.heap[i]?) : Byt w' S' l A cap := by
  refine ⟨h.1, h.2.1, h.2.2.1, fun hp => ?_⟩
  obtain ⟨b, o, e, hS, hc⟩ := h.2.2.2 hp
  exact ⟨b, o, e, (hs b hS).1, fun i u hu => (World.cell?_of_block (hs b hS).2).trans (hc i u hu)⟩
theorem Byt.drop {w : World} {S : Nat → Prop} {l : List UInt8} {b o cap : Nat} (h : Byt w S l (some ⟨b, o, none⟩) cap) (n : Nat) : Byt w S (l.drop n) (some ⟨b, o + n, none⟩) (cap - n) := by
  refine ⟨by rw [List.length_drop]; have := h.1; omega, by have := h.2.1; omega, (fun e => by cases e), fun hp => ?_⟩
  rw [List.length_drop] at hp
  obtain ⟨b', o', e, hS, hc⟩ := h.2.2.2 (by omega)
  injection e with e
  injection e with e1 e2
  subst e1 e2
  refine ⟨b, o + n, rfl, hS, fun i u hu => ?_⟩
  rw [Nat.add_assoc]
  refine hc (n + i) u ?_
  rw [U, List.getElem?_map] at hu ⊢
  rw [List.getElem?_drop] at hu
  exact hu

theorem below_drewN {B : Nat} {a w : World} (h : Below B a w) (n : Nat) : Below B a (w.drewN n) := ⟨h.os, h.tape, h.output, h.size, h.block⟩
/-- byte i -/
def by_ (l : List UInt8) (i : Nat) : UInt8 := l.getD i 0
theorem by_cell {w : World} {S : Nat → Prop} {l : List UInt8} {b o cap : Nat} (h : Byt w S l (some ⟨b, o, none⟩) cap) (i : Nat) (hi : i < l.length) : w.cell? ⟨b, o + i, none⟩ = some (.int .u8 ((by_ l i).toNat : Int)) := by
  obtain ⟨b', o', e, hS, hc⟩ := h.2.2.2 (by omega)
  injection e with e
  injection e with e1 e2
  subst e1 e2
  refine hc i _ ?_
  rw [U_get, List.getElem?_eq_getElem hi, by_, List.getD_eq_getElem?_getD, List.getElem?_eq_getElem hi]
  rfl
/-- word t of a block -/
def wAt (l : List UInt8) (t : Nat) : UInt32 := wd (by_ l (4 * t)) (by_ l (4 * t + 1)) (by_ l (4 * t + 2)) (by_ l (4 * t + 3))
/-- the first n words -/
def wds (l : List UInt8) (n : Nat) : List UInt32 := (List.range n).map (wAt l)
theorem wds_len (l : List UInt8) (n : Nat) : (wds l n).length = n := by simp [wds]
theorem wds_succ (l : List UInt8) (n : Nat) : wds l (n + 1) = wds l n ++ [wAt l n] := by simp [wds, List.range_succ]

/-- a row that is being filled: what is there, then zeros -/
def fl (n : Nat) (l : List UInt32) : List UInt32 := l ++ List.replicate (n - l.length) 0
theorem fl_set (n : Nat) (l : List UInt32) (x : UInt32) (h : l.length < n) : (fl n l).set l.length x = fl n (l ++ [x]) := by
  unfold fl
  rw [List.set_append_right _ _ (Nat.le_refl _), Nat.sub_self, List.length_append, List.length_singleton, show n - l.length = (n - (l.length + 1)) + 1 from by omega, List.replicate_succ, List.set_cons_zero, List.append_assoc]
  rfl
theorem fl_len (n : Nat) (l : List UInt32) (h : l.length ≤ n) : (fl n l).length = n := by
  unfold fl; rw [List.length_append, List.length_replicate]; omega
theorem fl_full (n : Nat) (l : List UInt32) (h : l.length = n) : fl n l = l := by
  unfold fl; rw [h, Nat.sub_self]; simp
theorem fl_get (n : Nat) (l : List UInt32) (i : Nat) (h : i < l.length) : (fl n l)[i]? = some (l.getD i 0) := by
  unfold fl
  rw [List.getElem?_append_left h, List.getD_eq_getElem?_getD, List.getElem?_eq_getElem h]
  rfl
theorem fl_next (n : Nat) (l : List UInt32) (h : l.length < n) : (fl n l)[l.length]? = some 0 := by
  unfold fl
  rw [List.getElem?_append_right (Nat.le_refl _), Nat.sub_self, show n - l.length = (n - l.length - 1) + 1 from by omega, List.replicate_succ]
  rfl
theorem R32_set (l : List UInt32) (i : Nat) (x : UInt32) : (R32 l).set i (.int .u32 (I x)) = R32 (l.set i x) := by simp [R32, List.map_set]

/-- a row of words at block b -/
def Row (w : World) (b : Nat) (t : TypeId) (l : List UInt32) : Prop := w.heap[b]? = some (.cells (R32 l).toArray t (0, 0))
theorem Row.cell {w : World} {b : Nat} {t : TypeId} {l : List UInt32} (h : Row w b t l) {i : Nat} {x : UInt32} (hx : l[i]? = some x) : w.cell? ⟨b, i, none⟩ = some (.int .u32 (I x)) := by
  rw [cell_of_row w b i _ _ _ h]
  simp [R32, hx]
theorem Row.set {w : World} {b : Nat} {t : TypeId} {l : List UInt32} (h : Row w b t l) (i : Nat) (x : UInt32) : Row (w.setCell ⟨b, i, none⟩ (.int .u32 (I x))) b t (l.set i x) := by
  have h' : w.heap[b]? = some (.cells (R32 l).toArray t (0, 0)) := h
  rw [setCell_eq_setRow w b i _ t _ _ h']
  show (w.setRow b _).heap[b]? = _
  rw [setRow_heap w b _ _ t _ h']
  simp [← R32_set]
/-- the next word of a row that is being filled -/
theorem Row.next {w : World} {b n : Nat} {t : TypeId} {l : List UInt32} (h : Row w b t (fl n l)) (hn : l.length < n) (x : UInt32) : Row (w.setCell ⟨b, l.length, none⟩ (.int .u32 (I x))) b t (fl n (l ++ [x])) := by
  have := h.set l.length x
  rwa [fl_set n l x hn] at this
theorem Row.frozen {w : World} {b : Nat} {t : TypeId} {l : List UInt32} (h : Row w b t l) (i : Nat) : w.frozen? ⟨b, i, none⟩ = false := frozen_of_row w b i _ t h
theorem Row.lt {w : World} {b : Nat} {t : TypeId} {l : List UInt32} (h : Row w b t l) : b < w.heap.size := (Array.getElem?_eq_some_iff.1 h).1
theorem Row.keep {w w' : World} {b : Nat} {t : TypeId} {l : List UInt32} (h : Row w b t l) (hk : w'.heap[b]? = w.heap[b]?) : Row w' b t l := hk.trans h

theorem R32_one (l : List UInt32) : (R32 l).toArray.all (·.oneCell') = true := by
  rw [Array.all_eq_true_iff_forall_mem]
  intro v hv
  simp only [R32, List.mem_toArray, List.mem_map] at hv
  obtain ⟨x, _, rfl⟩ := hv
  rfl
theorem R32_size (l : List UInt32) : (R32 l).toArray.size = l.length := by simp [R32]
theorem Row.setRow {w : World} {b : Nat} {t : TypeId} {l : List UInt32} (h : Row w b t l) (m : List UInt32) : Row (w.setRow b (R32 m).toArray) b t m := setRow_heap w b _ _ t _ h

theorem sz16 : (Tryd.prog.info? 72).map (·.size) = some 16 := by kernel_rfl
theorem sz64 : (Tryd.prog.info? 75).map (·.size) = some 64 := by kernel_rfl
theorem sz8 : (Tryd.prog.info? 66).map (·.size) = some 8 := by kernel_rfl
theorem sz8' : (Tryd.prog.info? 65).map (·.size) = some 8 := by kernel_rfl

/-- load of a whole row -/
theorem load_R {ops : Array Oper} {rest : List Oper} {o : Oper} {a : Act} {w : World} {Q : Exit → Act → World → Prop} (hgd : o.guard = none) (ty : TypeId) (x : Operand) (ho : o.op = .load ty x)
    (g : Nat) (hx : a.eval x = .pointer (some ⟨g, 0, none⟩)) (t : TypeId) (l : List UInt32) (n m : Nat) (e : TypeId) (h : Row w g t l)
    (hu : Tryd.prog.underlying ty = some (.array n e)) (hi : (Tryd.prog.info? ty).map (·.size) = some m) (hl : l.length = m)
    (hK : wpList Tryd.prog ops Q rest (a.put o.dst (.agg (R32 l).toArray)) w) : wpList Tryd.prog ops Q (o :: rest) a w :=
  wpList_load_row hgd ty x ho g hx t _ (0, 0) _ h hu rfl (by rw [hi, R32_size, hl]) hK
/-- store of a whole row -/
theorem store_R {ops : Array Oper} {rest : List Oper} {o : Oper} {a : Act} {w : World} {Q : Exit → Act → World → Prop} (hgd : o.guard = none) (ty : TypeId) (x y : Operand) (ho : o.op = .store ty x y)
    (g : Nat) (l l' : List UInt32) (hx : a.eval x = .pointer (some ⟨g, 0, none⟩)) (hy : a.eval y = .agg (R32 l').toArray) (t : TypeId) (m : Nat) (h : Row w g t l)
    (hi : (Tryd.prog.info? ty).map (·.size) = some m) (hl : l'.length = m) (hl0 : l.length = m)
    (hK : wpList Tryd.prog ops Q rest (a.put o.dst undef) (w.setRow g (R32 l').toArray)) : wpList Tryd.prog ops Q (o :: rest) a w :=
  wpList_store_row hgd ty x y ho g _ hx hy t _ h (by rw [hi, R32_size, hl]) (by rw [R32_size, R32_size, hl, hl0]) (R32_one l') hK
/-- store of what stands there -/
theorem store_S {ops : Array Oper} {rest : List Oper} {o : Oper} {a : Act} {w : World} {Q : Exit → Act → World → Prop} (hgd : o.guard = none) (ty : TypeId) (x y : Operand) (ho : o.op = .store ty x y)
    (g : Nat) (l : List UInt32) (hx : a.eval x = .pointer (some ⟨g, 0, none⟩)) (hy : a.eval y = .agg (R32 l).toArray) (t : TypeId) (m : Nat) (h : Row w g t l)
    (hi : (Tryd.prog.info? ty).map (·.size) = some m) (hl : l.length = m)
    (hK : wpList Tryd.prog ops Q rest (a.put o.dst undef) w) : wpList Tryd.prog ops Q (o :: rest) a w :=
  store_R hgd ty x y ho g l l hx hy t m h hi hl hl (by rw [setRow_self w g _ t _ h]; exact hK)
/-- a result that is a row -/
theorem res_R {fn : Func} {p : Tmp} {ty : TypeId} (h : fn.results = #[.cell p ty]) (tmps : Array Value) (w : World) (g : Nat) (t : TypeId) (l : List UInt32) (n m : Nat) (e : TypeId)
    (hp : tmps.getD p undef = .pointer (some ⟨g, 0, none⟩)) (hg : Row w g t l) (hu : Tryd.prog.underlying ty = some (.array n e)) (hi : (Tryd.prog.info? ty).map (·.size) = some m) (hl : l.length = m) :
    (results fn tmps).run Tryd.prog w = .ok (.agg (R32 l).toArray) w :=
  results_cell_row h tmps w g t _ (0, 0) _ hp hg hu rfl (by rw [hi, R32_size, hl])

set_option maxRecDepth 100000 in
set_option maxHeartbeats 800000 in
theorem words_all (l : List UInt8) (g o cap : Nat) (w : World) (hl : 64 ≤ l.length) (hb : Byt w (· < w.heap.size) l (some ⟨g, o, none⟩) cap) :
    Calls Tryd.prog 52 #[.slice (some ⟨g, o, none⟩) l.length cap] w fun e w' => e = .returned (.agg (R32 (wds l 16)).toArray) ∧ Below w.heap.size w w' := by
  have HB := Lib.hid hb
  have hcap := hb.1
  have hz : Row (w.alloc (.cells (R32 (fl 16 (wds l 0))).toArray 72)) w.heap.size 72 (fl 16 (wds l 0)) := heap_alloc_new w _
  clear hb
  go_enter Tryd.func52, Tryd.ntmps52
  go_wp2_with fail
  go_loopw [4] (fun x wr => ∃ t : Nat, x = .int .i64 t ∧ t ≤ 16 ∧ Row wr w.heap.size 72 (fl 16 (wds l t)) ∧ Below w.heap.size w wr) (fun x _ => 16 - (intOf x).toNat)
  case atStart => exact ⟨0, rfl, by omega, hz, (Below.refl _ _).alloc (Nat.le_refl _) _⟩
  case round =>
    obtain ⟨t, rfl, ht, hrow, hbl⟩ := hrel
    by_cases hlt : t < 16
    · have hbw := HB.out.keep (S' := (· < w.heap.size)) fun i hi => ⟨hi, hbl.block i hi⟩
      have C := Lib.hid (word_all (by_ l (4 * t)) (by_ l (4 * t + 1)) (by_ l (4 * t + 2)) (by_ l (4 * t + 3)) g (o + 4 * t) (l.length - 4 * t) (cap - 4 * t) wr (by omega) (by_cell hbw _ (by omega)) (by_cell hbw (4 * t + 1) (by omega)) (by_cell hbw (4 * t + 2) (by omega)) (by_cell hbw (4 * t + 3) (by omega)))
      rw [show 4 * t = t * 4 from Nat.mul_comm _ _] at C
      have hcell : ∀ m, (wr.drewN m).cell? ⟨w.heap.size, t, none⟩ = some (.int .u32 (I 0)) := fun m => Row.cell (w := wr.drewN m) hrow (by have := fl_next 16 (wds l t) (by rw [wds_len]; exact hlt); rwa [wds_len] at this)
      have hnext : ∀ m, Row ((wr.drewN m).setCell ⟨w.heap.size, t, none⟩ (.int .u32 (I (wAt l t)))) w.heap.size 72 (fl 16 (wds l (t + 1))) := fun m => by
        have := Row.next (w := wr.drewN m) hrow (by rw [wds_len]; exact hlt) (wAt l t)
        rwa [wds_len, ← wds_succ] at this
      have HNEXT := Lib.hid hnext
      have hfz := hrow.frozen t
      have HBL := Lib.hid hbl
      clear hbw hrow hbl hnext hz
      go_wp2_with fail
      refine C.out.mono ?_
      rintro e w' ⟨rfl, m, rfl⟩
      have hcm := hcell m
      clear hcell C
      go_wp2_with fail
      go_roundw
      case rel =>
        refine ⟨t + 1, rfl, by omega, ?_, ?_⟩
        · have := HNEXT.out m
          unfold wAt at this
          rwa [show 4 * t = t * 4 from Nat.mul_comm _ _] at this
        · exact (below_drewN HBL.out m).setCell (Nat.le_refl _) _
      case measure => simp [intOf]; omega
    · obtain rfl : t = 16 := by omega
      have hfin : Row wr w.heap.size 72 (wds l 16) := by rw [fl_full _ _ (wds_len l 16)] at hrow; exact hrow
      have HBL := Lib.hid hbl
      clear hrow hbl hz
      go_wp2_with (first | (refine load_R rfl 72 (.tmp 2) rfl w.heap.size rfl 72 (wds l 16) _ _ _ hfin Tryd.underlying72 sz16 (wds_len l 16) ?_) | (refine store_S rfl 72 (.tmp 2) (.tmp 15) rfl w.heap.size (wds l 16) rfl rfl 72 _ hfin sz16 (wds_len l 16) ?_))
      exact bodyPost_ret (res_R rfl _ _ _ _ _ _ _ _ rfl hfin Tryd.underlying72 sz16 (wds_len l 16)) rfl ⟨rfl, HBL.out⟩
end Go.Proofs.YtllkkafajchioaaDoor
