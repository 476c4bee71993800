/- Chains: lists of digits; digit, digitsOf, left. -/
import Derived.Test.YtllkkafajchioaaDoorXA
import Derived.Laws.BitsLemmas
import Derived.Laws.Bits64
import Derived.IntWalk
namespace Go.Proofs.YtllkkafajchioaaDoor
open Go.RowKit

def NI (l : List Nat) : List Value := l.map fun (n : Nat) => Value.int .i64 (n : Int)
theorem NI_length (l : List Nat) : (NI l).length = l.length := by simp [NI]
theorem NI_append (l m : List Nat) : NI (l ++ m) = NI l ++ NI m := by simp [NI]
theorem NI_get (l : List Nat) (i : Nat) : (NI l)[i]? = (l[i]?).map fun (n : Nat) => Value.int .i64 (n : Int) := by unfold NI; rw [List.getElem?_map]
theorem NI_one (l : List Nat) : ∀ u ∈ NI l, u.oneCell' = true := by
  intro u hu
  simp only [NI, List.mem_map] at hu
  obtain ⟨b, _, rfl⟩ := hu
  rfl
theorem NI_set (l : List Nat) (i : Nat) (x : Nat) : (NI l).set i (.int .i64 (x : Int)) = NI (l.set i x) := by simp [NI, List.map_set]
/-- a row of numbers at block b -/
def RowN (w : World) (b : Nat) (t : TypeId) (l : List Nat) : Prop := w.heap[b]? = some (.cells (NI l).toArray t (0, 0))
theorem RowN.cell {w : World} {b : Nat} {t : TypeId} {l : List Nat} (h : RowN w b t l) {i : Nat} {x : Nat} (hx : l[i]? = some x) : w.cell? ⟨b, i, none⟩ = some (.int .i64 (x : Int)) := by
  rw [cell_of_row w b i _ _ _ h]
  simp [NI, hx]
theorem RowN.set {w : World} {b : Nat} {t : TypeId} {l : List Nat} (h : RowN w b t l) (i : Nat) (x : Nat) : RowN (w.setCell ⟨b, i, none⟩ (.int .i64 (x : Int))) b t (l.set i x) := by
  have h' : w.heap[b]? = some (.cells (NI l).toArray t (0, 0)) := h
  rw [setCell_eq_setRow w b i _ t _ _ h']
  show (w.setRow b _).heap[b]? = _
  rw [setRow_heap w b _ _ t _ h']
  simp [← NI_set]
theorem RowN.frozen {w : World} {b : Nat} {t : TypeId} {l : List Nat} (h : RowN w b t l) (i : Nat) : w.frozen? ⟨b, i, none⟩ = false := frozen_of_row w b i _ t h
theorem RowN.lt {w : World} {b : Nat} {t : TypeId} {l : List Nat} (h : RowN w b t l) : b < w.heap.size := (Array.getElem?_eq_some_iff.1 h).1
theorem RowN.keep {w w' : World} {b : Nat} {t : TypeId} {l : List Nat} (h : RowN w b t l) (hk : w'.heap[b]? = w.heap[b]?) : RowN w' b t l := hk.trans h
theorem RowN.setRow {w : World} {b : Nat} {t : TypeId} {l : List Nat} (h : RowN w b t l) (m : List Nat) : RowN (w.setRow b (NI m).toArray) b t m := setRow_heap w b _ _ t _ h
def fln (n : Nat) (l : List Nat) : List Nat := l ++ List.replicate (n - l.length) 0
theorem fln_set (n : Nat) (l : List Nat) (x : Nat) (h : l.length < n) : (fln n l).set l.length x = fln n (l ++ [x]) := by
  unfold fln
  rw [List.set_append_right _ _ (Nat.le_refl _), Nat.sub_self, List.length_append, List.length_singleton, show n - l.length = (n - (l.length + 1)) + 1 from by omega, List.replicate_succ, List.set_cons_zero, List.append_assoc]
  rfl
theorem fln_full (n : Nat) (l : List Nat) (h : l.length = n) : fln n l = l := by
  unfold fln; rw [h, Nat.sub_self]; simp
theorem fln_next (n : Nat) (l : List Nat) (h : l.length < n) : (fln n l)[l.length]? = some 0 := by
  unfold fln
  rw [List.getElem?_append_right (Nat.le_refl _), Nat.sub_self, show n - l.length = (n - l.length - 1) + 1 from by omega, List.replicate_succ]
  rfl
theorem RowN.next {w : World} {b n : Nat} {t : TypeId} {l : List Nat} (h : RowN w b t (fln n l)) (hn : l.length < n) (x : Nat) : RowN (w.setCell ⟨b, l.length, none⟩ (.int .i64 (x : Int))) b t (fln n (l ++ [x])) := by
  have := h.set l.length x
  rwa [fln_set n l x hn] at this
theorem NI_ones (l : List Nat) : (NI l).toArray.all (·.oneCell') = true := by
  rw [Array.all_eq_true_iff_forall_mem]
  intro v hv
  exact NI_one l v (by simpa using hv)
theorem NI_size (l : List Nat) : (NI l).toArray.size = l.length := by simp [NI]
theorem sz19 : (Tryd.prog.info? 47).map (·.size) = some 19 := by kernel_rfl

theorem load_N {ops : Array Oper} {rest : List Oper} {o : Oper} {a : Act} {w : World} {Q : Exit → Act → World → Prop} (hgd : o.guard = none) (x : Operand) (ho : o.op = .load 47 x)
    (g : Nat) (hx : a.eval x = .pointer (some ⟨g, 0, none⟩)) (t : TypeId) (l : List Nat) (h : RowN w g t l) (hl : l.length = 19)
    (hK : wpList Tryd.prog ops Q rest (a.put o.dst (.agg (NI l).toArray)) w) : wpList Tryd.prog ops Q (o :: rest) a w :=
  wpList_load_row hgd 47 x ho g hx t _ (0, 0) _ h Tryd.underlying47 rfl (by rw [sz19, NI_size, hl]) hK
theorem store_N {ops : Array Oper} {rest : List Oper} {o : Oper} {a : Act} {w : World} {Q : Exit → Act → World → Prop} (hgd : o.guard = none) (x y : Operand) (ho : o.op = .store 47 x y)
    (g : Nat) (l l' : List Nat) (hx : a.eval x = .pointer (some ⟨g, 0, none⟩)) (hy : a.eval y = .agg (NI l').toArray) (t : TypeId) (h : RowN w g t l) (hl : l'.length = 19) (hl0 : l.length = 19)
    (hK : wpList Tryd.prog ops Q rest (a.put o.dst undef) (w.setRow g (NI l').toArray)) : wpList Tryd.prog ops Q (o :: rest) a w :=
  wpList_store_row hgd 47 x y ho g _ hx hy t _ h (by rw [sz19, NI_size, hl]) (by rw [NI_size, NI_size, hl, hl0]) (NI_ones l') hK
theorem store_NS {ops : Array Oper} {rest : List Oper} {o : Oper} {a : Act} {w : World} {Q : Exit → Act → World → Prop} (hgd : o.guard = none) (x y : Operand) (ho : o.op = .store 47 x y)
    (g : Nat) (l : List Nat) (hx : a.eval x = .pointer (some ⟨g, 0, none⟩)) (hy : a.eval y = .agg (NI l).toArray) (t : TypeId) (h : RowN w g t l) (hl : l.length = 19)
    (hK : wpList Tryd.prog ops Q rest (a.put o.dst undef) w) : wpList Tryd.prog ops Q (o :: rest) a w :=
  store_N hgd x y ho g l l hx hy t h hl hl (by rw [setRow_self w g _ t _ h]; exact hK)
theorem res_N {fn : Func} {p : Tmp} (h : fn.results = #[.cell p 47]) (tmps : Array Value) (w : World) (g : Nat) (t : TypeId) (l : List Nat)
    (hp : tmps.getD p undef = .pointer (some ⟨g, 0, none⟩)) (hg : RowN w g t l) (hl : l.length = 19) :
    (results fn tmps).run Tryd.prog w = .ok (.agg (NI l).toArray) w :=
  results_cell_row h tmps w g t _ (0, 0) _ hp hg Tryd.underlying47 rfl (by rw [sz19, NI_size, hl])


theorem and3 (n : Nat) (h : n ≤ 1000000) : bits .and .i64 (n : Int) 3 = ((n % 4 : Nat) : Int) := by
  have h := bits_mask .i64 63 (by decide) (fun n h0 h1 => IntWalk.i64_in n (by omega)) 2 (by decide) (n : Int) (by omega) (by omega)
  have e : ((2 : Int) ^ 2 - 1) = 3 := by decide
  have e2 : ((2 : Int) ^ 2) = 4 := by decide
  rw [e, e2] at h
  rw [h]
  omega
theorem shr4 (n k : Nat) : (n : Int) / 2 ^ (2 * k) = ((n / 4 ^ k : Nat) : Int) := by
  have e : (4 : Nat) ^ k = 2 ^ (2 * k) := by rw [Nat.pow_mul]
  rw [e, Int.natCast_ediv, Int.natCast_pow]
  rfl
set_option maxHeartbeats 400000 in
theorem digit_all (n k : Nat) (w : World) (hn : n ≤ 1000) (hk : k ≤ 3) : Calls Tryd.prog 38 #[.int .i64 n, .int .i64 k] w fun e w' => e = .returned (.int .i64 (n / 4 ^ k % 4 : Nat)) ∧ w' = w := by
  go_enter Tryd.func38, Tryd.ntmps38
  go_wp2
  go_ret
  exact ⟨ret_int (by rw [shr4, and3 _ (Nat.le_trans (Nat.div_le_self _ _) (by omega))]), rfl⟩
end Go.Proofs.YtllkkafajchioaaDoor
