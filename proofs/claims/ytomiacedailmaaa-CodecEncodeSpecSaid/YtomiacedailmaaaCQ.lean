/- Codec: rows of values of the call's own; a slice of bytes as a string. -/
import Derived.Test.YtomiacedailmaaaCP
import Derived.Maps.AppendAt
import Derived.Laws.BytesString
namespace Go.Proofs.Ytomiacedailmaaa
open Go.RowKit

theorem push_bytes (l : List UInt8) : ∀ r : ByteArray, (l.map fun b : UInt8 => (b.toNat : Int)).foldl (fun r n => r.push (UInt8.ofNat n.toNat)) r = ⟨r.data ++ l.toArray⟩ := by
  induction l with
  | nil => intro r; simp
  | cons b l ih =>
    intro r
    rw [List.map_cons, List.foldl_cons, ih]
    apply ByteArray.ext
    have e : UInt8.ofNat (Int.toNat (b.toNat : Int)) = b := by simp
    rw [e]
    show (r.data.push b) ++ l.toArray = _
    simp

theorem conv_str {w : World} {S : Nat → Prop} {l : List UInt8} {A : Option Addr} {n cap : Nat} (hb : Byt w S l A cap) (hn : n = l.length) :
    (convert 27 9 (.slice A n cap)).run Try.prog w = .ok (.string ⟨l.toArray⟩) w := by
  subst hn
  rw [run_convert_bytes_string w _ _ 5 A l.length cap Try.underlying27 Try.underlying5 Try.underlying9]
  rcases Nat.eq_zero_or_pos l.length with h0 | hp
  · have : l = [] := List.eq_nil_of_length_eq_zero h0
    subst this
    cases A with
    | none => rfl
    | some a =>
      show (Conv.bytesToString (.slice (some a) 0 cap)).run Try.prog w = _
      rw [run_bytesToString w a 0 cap [] (by have := run_loadCells_list (P := Try.prog) (w := w) a [] (by simp); simpa using this)]
      rfl
  · obtain ⟨b, o, rfl, _, hc⟩ := hb.2.2 hp
    rw [run_bytesToString w ⟨b, o, none⟩ l.length cap (l.map fun b : UInt8 => (b.toNat : Int)) ?_]
    · rw [push_bytes]
      congr 3
      simp
    · have := run_loadCells_list (P := Try.prog) (w := w) ⟨b, o, none⟩ (U l) (fun j v hj => by
        rw [Go.WideShapes.add_plain]; exact hc j v hj)
      rw [U_length] at this
      rw [this]
      simp [U, Function.comp_def]

/-- an element of a row of values: the value, and where its list lies -/
structure El where
  v : V
  A : Option Addr
  cap : Nat
def El.cells (e : El) : List Value := [.int .i64 e.v.k, .int .i64 e.v.n, .string e.v.s, .slice e.A e.v.l.len e.cap]
def cells (l : List El) : List Value := l.flatMap El.cells
theorem cells_len (l : List El) : (cells l).length = l.length * 4 := by
  induction l with
  | nil => rfl
  | cons e r ih => simp only [cells, List.flatMap_cons, List.length_append] at ih ⊢; rw [ih]; simp [El.cells]; omega
theorem cells_snoc (l : List El) (e : El) : cells (l ++ [e]) = cells l ++ e.cells := by simp [cells]
theorem cells_one (l : List El) : ∀ u ∈ cells l, u.oneCell' = true := by
  intro u hu
  simp only [cells, List.mem_flatMap, El.cells] at hu
  obtain ⟨e, _, hu⟩ := hu
  simp at hu
  rcases hu with rfl | rfl | rfl | rfl <;> rfl

theorem info_val : (Try.prog.info? 24).map (fun i => (i.zero, i.size, i.bytes)) = some (some (.agg #[.int .i64 0, .int .i64 0, .string ⟨#[]⟩, .slice none 0 0]), 4, 56) := by kernel_rfl

/-- a row of values of the call's own -/
def OwnV (w : World) (base : Nat) (v : Value) (l : List El) : Prop := w.ownsRow base 24 4 v l.length (cells l)

theorem rd_of_cells {w : World} {S : Nat → Prop} {b : Nat} : ∀ (l : List El) (o : Nat), (∀ j u, (cells l)[j]? = some u → w.cell? ⟨b, o + j, none⟩ = some u) → (∀ e ∈ l, RdV w S e.v e.A e.cap) → F.Rd w S (F.ofList (l.map El.v)) b o
  | [], _, _, _ => trivial
  | e :: r, o, hc, hv => by
    have he := hv e (List.mem_cons_self ..)
    refine ⟨he.1, ?_, ?_, ?_, ⟨e.A, e.cap, ?_, he.2.1, he.2.2.1, he.2.2.2⟩, rd_of_cells r (o + 4) (fun j u hu => ?_) (fun x hx => hv x (List.mem_cons_of_mem _ hx))⟩
    · exact hc 0 _ (by simp [cells, El.cells])
    · exact hc 1 _ (by simp [cells, El.cells])
    · exact hc 2 _ (by simp [cells, El.cells])
    · exact hc 3 _ (by simp [cells, El.cells])
    · have := hc (4 + j) u (by
        simp only [cells, List.flatMap_cons]
        rw [List.getElem?_append_right (by simp [El.cells])]
        rw [← hu]
        simp [El.cells, cells])
      rw [show o + 4 + j = o + (4 + j) from by omega]
      exact this
theorem len_ofList (l : List V) : (F.ofList l).len = l.length := by
  rw [← F.len_toList, F.toList_ofList]
/-- a row of the call's own, read as a forest -/
theorem OwnV.sl {w : World} {base : Nat} {v : Value} {l : List El} {S : Nat → Prop} (h : OwnV w base v l) (hS : ∀ g, v.ownBlock = some g → S g) (hv : ∀ e ∈ l, RdV w S e.v e.A e.cap) :
    ∃ A cap, v = .slice A l.length cap ∧ Sl w S (F.ofList (l.map El.v)) A cap := by
  have hl : (F.ofList (l.map El.v)).len = l.length := by rw [len_ofList, List.length_map]
  have hcs : ∀ g, v.ownBlock = some g → ∀ j u, (cells l)[j]? = some u → w.cell? ((⟨g, 0, none⟩ : Addr).add j) = some u := fun g hg => World.ownsRow.cells h hg
  rcases h.2 with ⟨rfl, h0⟩ | ⟨g, cap, cur, rfl, hb, hh, h1, h2, _⟩
  · exact ⟨none, 0, by rw [h0], by rw [hl]; omega, Nat.zero_le _, fun hp => by omega⟩
  · refine ⟨some ⟨g, 0, none⟩, cap, rfl, by rw [hl]; exact h1, h2, fun _ => ⟨g, 0, rfl, hS g rfl, rd_of_cells l 0 (fun j u hu => ?_) hv⟩⟩
    have := hcs g rfl j u hu
    rwa [Go.WideShapes.add_plain] at this

/-- append of one value onto an own row of values -/
theorem app_val {ops : Array Oper} {rest : List Oper} {o : Oper} {a : Act} {Q : Exit → Act → World → Prop} {w : World} (hgd : o.guard = none) (s x : Operand)
    (ho : o.op = .call { callee := .builtin .append, args := #[s, x], argTypes := #[22, 22] })
    (base g : Nat) (v : Value) (l : List El) (e : El) (hs : a.eval s = v) (hx : a.eval x = .slice (some ⟨g, 0, none⟩) 1 1) (hown : OwnV w base v l)
    (hsrc : w.heap[g]? = some (.cells #[.int .i64 e.v.k, .int .i64 e.v.n, .string e.v.s, .slice e.A e.v.l.len e.cap] 24 (0, 0)))
    (hlen : l.length + 1 ≤ 1099511627776) (hbase : base ≤ w.heap.size)
    (h : ∀ v' w', OwnV w' base v' (l ++ [e]) → w.grownBy w' v.ownBlock → (v'.ownBlock = v.ownBlock ∨ v'.ownBlock = some w.heap.size) → wpList Try.prog ops Q rest (a.put o.dst v') w') : wpList Try.prog ops Q (o :: rest) a w := by
  obtain ⟨i, hi, hz0, hz1, hz2⟩ := info_parts info_val
  refine wpList_append_own_at _ hgd s x 22 ho base 24 i _ 4 56 Try.underlying22 hi hz0 hz1 hz2 rfl (by omega) v l.length (cells l) hs hown ⟨g, 0, none⟩ 1 1 e.cells
    hx (by simp [El.cells]) ?_ (by have := cells_one [e]; simpa [cells] using this) (by simp only [maxLen]; omega) (by omega) hbase ?_
  · intro j u hu
    rw [Go.WideShapes.add_plain, cell_of_row _ _ _ _ _ _ hsrc, Nat.zero_add, ← hu]
    simp [El.cells]
  · intro v' w' h1 h2 _ h4
    refine h v' w' ?_ h2 h4
    unfold OwnV
    rw [List.length_append, cells_snoc]
    exact h1
end Go.Proofs.Ytomiacedailmaaa
