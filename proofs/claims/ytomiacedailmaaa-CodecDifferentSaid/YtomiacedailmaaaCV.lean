/- The arguments of the statements: a value, a slice of bytes, a slice of values. -/
import Derived.Test.YtomiacedailmaaaCY
namespace Go.Proofs.Ytomiacedailmaaa
open Go.ChangeShapes Go.WideShapes Go.ChangeAt Go.RowKit

section
variable {H : Type} {enc : TypeId × Value → H}

theorem arg_val {W : World} {r : Reach} {b0 : Nat} {v : Value} {d : DataW H} {ps : List MemPlace} (hval : Value.okWide Try.prog W r b0 24 v) (hd : DataW.Trod enc Try.prog W 0 (fun _ => true) true 24 v d ps) :
    ∃ (x : V) (A : Option Addr) (cap : Nat), v = x.val A cap ∧ RdV W (· < W.heap.size) x A cap := by
  obtain ⟨cs, rfl, _⟩ := okWide_struct Try.underlying24 hval
  obtain ⟨fuel, hf⟩ := hd
  obtain ⟨x, A, cap, e, hr⟩ := (open_both W fuel).1 _ _ hf
  refine ⟨x, A, cap, ?_, hr⟩
  have e : cs.toList = [.int .i64 x.k, .int .i64 x.n, .string x.s, .slice A x.l.len cap] := e
  cases cs
  simp only at e
  rw [e]
theorem arg_bytes {W : World} {r : Reach} {b0 : Nat} {v : Value} {d : DataW H} {ps : List MemPlace} (hval : Value.okWide Try.prog W r b0 27 v) (hd : DataW.Trod enc Try.prog W 0 (fun _ => true) true 27 v d ps) :
    ∃ (l : List UInt8) (A : Option Addr) (cap : Nat), v = .slice A l.length cap ∧ Byt W (· < W.heap.size) l A cap := by
  obtain ⟨a, n, c, rfl⟩ := okWide_slice Try.underlying27 hval
  obtain ⟨fuel, hf⟩ := hd
  obtain ⟨l, A, cap, e, hr⟩ := open_bytes hf
  have e : [Value.slice a n c] = [Value.slice A l.length cap] := e
  injection e with e _
  exact ⟨l, A, cap, e, hr⟩
theorem arg_vals {W : World} {r : Reach} {b0 : Nat} {v : Value} {d : DataW H} {ps : List MemPlace} (hval : Value.okWide Try.prog W r b0 22 v) (hd : DataW.Trod enc Try.prog W 0 (fun _ => true) true 22 v d ps) :
    ∃ (f : F) (A : Option Addr) (cap : Nat), v = .slice A f.len cap ∧ Sl W (· < W.heap.size) f A cap := by
  obtain ⟨a, n, c, rfl⟩ := okWide_slice Try.underlying22 hval
  obtain ⟨fuel, hf⟩ := hd
  obtain ⟨f, A, cap, e, hr⟩ := (open_both W fuel).2 _ _ hf
  have e : [Value.slice a n c] = [Value.slice A f.len cap] := e
  injection e with e _
  exact ⟨f, A, cap, e, hr⟩
end

/-- a row of two values, new -/
theorem sl_two {w : World} {a b : V} {A B : Option Addr} {ca cb : Nat} (ha : RdV w (· < w.heap.size) a A ca) (hb : RdV w (· < w.heap.size) b B cb) :
    ∀ w', w' = w.alloc (.cells #[.int .i64 a.k, .int .i64 a.n, .string a.s, .slice A a.l.len ca, .int .i64 b.k, .int .i64 b.n, .string b.s, .slice B b.l.len cb] 24) → Sl w' (· < w'.heap.size) (F.push a (F.push b .nil)) (some ⟨w.heap.size, 0, none⟩) 2 := by
  intro w' e
  have h : w'.heap[w.heap.size]? = some (.cells #[.int .i64 a.k, .int .i64 a.n, .string a.s, .slice A a.l.len ca, .int .i64 b.k, .int .i64 b.n, .string b.s, .slice B b.l.len cb] 24 (0, 0)) := by rw [e]; exact heap_alloc_new w _
  have hz : w'.heap.size = w.heap.size + 1 := by rw [e]; simp
  have c : ∀ i, w'.cell? ⟨w.heap.size, i, none⟩ = _ := fun i => cell_of_row _ _ _ _ _ _ h
  have hk : ∀ i, i < w.heap.size → i < w'.heap.size ∧ w'.heap[i]? = w.heap[i]? := fun i hi => ⟨by omega, by rw [e]; exact Below.heap_alloc _ _ _ hi⟩
  have ha' := ha.keep hk
  have hb' := hb.keep hk
  refine ⟨Nat.le_refl _, by show (2 : Nat) ≤ maxLen; simp [maxLen], fun _ => ⟨w.heap.size, 0, rfl, by show w.heap.size < w'.heap.size; omega, ?_⟩⟩
  exact ⟨ha'.1, c 0, c 1, c 2, ⟨A, ca, c 3, ha'.2.1, ha'.2.2.1, ha'.2.2.2⟩, hb'.1, c 4, c 5, c 6, ⟨B, cb, c 7, hb'.2.1, hb'.2.2.1, hb'.2.2.2⟩, trivial⟩
theorem sl_one {w : World} {a : V} {A : Option Addr} {ca : Nat} (ha : RdV w (· < w.heap.size) a A ca) :
    ∀ w', w' = w.alloc (.cells #[.int .i64 a.k, .int .i64 a.n, .string a.s, .slice A a.l.len ca] 24) → Sl w' (· < w'.heap.size) (F.push a .nil) (some ⟨w.heap.size, 0, none⟩) 1 := by
  intro w' e
  have h : w'.heap[w.heap.size]? = some (.cells #[.int .i64 a.k, .int .i64 a.n, .string a.s, .slice A a.l.len ca] 24 (0, 0)) := by rw [e]; exact heap_alloc_new w _
  have hz : w'.heap.size = w.heap.size + 1 := by rw [e]; simp
  have c : ∀ i, w'.cell? ⟨w.heap.size, i, none⟩ = _ := fun i => cell_of_row _ _ _ _ _ _ h
  have hk : ∀ i, i < w.heap.size → i < w'.heap.size ∧ w'.heap[i]? = w.heap[i]? := fun i hi => ⟨by omega, by rw [e]; exact Below.heap_alloc _ _ _ hi⟩
  have ha' := ha.keep hk
  refine ⟨Nat.le_refl _, by show (1 : Nat) ≤ maxLen; simp [maxLen], fun _ => ⟨w.heap.size, 0, rfl, by show w.heap.size < w'.heap.size; omega, ?_⟩⟩
  exact ⟨ha'.1, c 0, c 1, c 2, ⟨A, ca, c 3, ha'.2.1, ha'.2.2.1, ha'.2.2.2⟩, trivial⟩

/-- what a value's box holds, cell by cell -/
theorem box_cells {w : World} {b : Nat} {v : V} {A : Option Addr} {cap : Nat} {u : TypeId} (h : w.heap[b]? = some (.cells #[.int .i64 v.k, .int .i64 v.n, .string v.s, .slice A v.l.len cap] u (0, 0))) :
    w.cell? ⟨b, 0, none⟩ = some (.int .i64 v.k) ∧ w.cell? ⟨b, 1, none⟩ = some (.int .i64 v.n) ∧ w.cell? ⟨b, 2, none⟩ = some (.string v.s) ∧ w.cell? ⟨b, 3, none⟩ = some (.slice A v.l.len cap) := by
  have c : ∀ i, w.cell? ⟨b, i, none⟩ = _ := fun i => cell_of_row _ _ _ _ _ _ h
  exact ⟨c 0, c 1, c 2, c 3⟩


end Go.Proofs.Ytomiacedailmaaa
