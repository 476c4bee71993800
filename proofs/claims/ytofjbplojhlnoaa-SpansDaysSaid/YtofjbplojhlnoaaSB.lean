/- Spans: cells; the days of a list. -/
import Derived.Test.YtofjbplojhlnoaaSA
import Derived.Test.YtofjbplojhlnoaaProg
import Derived.Test.YtofjbplojhlnoaaChecked
import Derived.WalkKit
import Derived.LoopTactic
import Derived.Deep.QuietTactic
import Derived.BigQuiet
import Derived.IntWalk
import Derived.Laws.Rows
import Derived.Laws.Tables
import Derived.Laws.Cells
import Derived.Laws.NewBlocks
import Derived.WalkLawsBesides
import Derived.Below
namespace Go.Proofs.Ytofjbplojhlnoaa
open Go.RowKit

theorem ret_int {k : IntKind} {a b : Int} (h : a = b) : Ending.returned (.int k a) = .returned (.int k b) := by rw [h]

/-- a row of cells at block b -/
def Rw (w : World) (b : Nat) (t : TypeId) (l : List Value) : Prop := w.heap[b]? = some (.cells l.toArray t (0, 0))
theorem Rw.cell {w : World} {b : Nat} {t : TypeId} {l : List Value} (h : Rw w b t l) {i : Nat} {x : Value} (hx : l[i]? = some x) : w.cell? ⟨b, i, none⟩ = some x := by
  rw [cell_of_row w b i _ _ _ h]
  simpa using hx
theorem Rw.set {w : World} {b : Nat} {t : TypeId} {l : List Value} (h : Rw w b t l) (i : Nat) (x : Value) : Rw (w.setCell ⟨b, i, none⟩ x) b t (l.set i x) := by
  have h' : w.heap[b]? = some (.cells l.toArray t (0, 0)) := h
  rw [setCell_eq_setRow w b i _ t _ _ h']
  show (w.setRow b _).heap[b]? = _
  rw [setRow_heap w b _ _ t _ h']
  simp
theorem Rw.frozen {w : World} {b : Nat} {t : TypeId} {l : List Value} (h : Rw w b t l) (i : Nat) : w.frozen? ⟨b, i, none⟩ = false := frozen_of_row w b i _ t h
theorem Rw.lt {w : World} {b : Nat} {t : TypeId} {l : List Value} (h : Rw w b t l) : b < w.heap.size := (Array.getElem?_eq_some_iff.1 h).1
theorem Rw.keep {w w' : World} {b : Nat} {t : TypeId} {l : List Value} (h : Rw w b t l) (hk : w'.heap[b]? = w.heap[b]?) : Rw w' b t l := hk.trans h

/-- the numbers of an array of n elements -/
def fI (n : Nat) (f : Nat → Int) : List Value := (List.range n).map fun i => .int .i64 (f i)
def fB (n : Nat) (f : Nat → Bool) : List Value := (List.range n).map fun i => .bool (f i)
theorem fI_at (n : Nat) (f : Nat → Int) (i : Nat) (h : i < n) : (fI n f)[i]? = some (.int .i64 (f i)) := by simp [fI, h]
theorem fB_at (n : Nat) (f : Nat → Bool) (i : Nat) (h : i < n) : (fB n f)[i]? = some (.bool (f i)) := by simp [fB, h]
theorem fI_congr (n : Nat) (f g : Nat → Int) (h : ∀ i, i < n → f i = g i) : fI n f = fI n g := by
  unfold fI
  apply List.map_congr_left
  intro i hi
  rw [h i (List.mem_range.1 hi)]
theorem fB_congr (n : Nat) (f g : Nat → Bool) (h : ∀ i, i < n → f i = g i) : fB n f = fB n g := by
  unfold fB
  apply List.map_congr_left
  intro i hi
  rw [h i (List.mem_range.1 hi)]
theorem fI_set (n : Nat) (f : Nat → Int) (i : Nat) (x : Int) : (fI n f).set i (.int .i64 x) = fI n fun j => if j = i then x else f j := by
  apply List.ext_getElem (by simp [fI])
  intro j h1 h2
  rw [List.getElem_set]
  simp only [fI, List.getElem_map, List.getElem_range]
  by_cases h : i = j
  · subst h; simp
  · rw [if_neg h, if_neg (Ne.symm h)]
theorem fB_set (n : Nat) (f : Nat → Bool) (i : Nat) (x : Bool) : (fB n f).set i (.bool x) = fB n fun j => if j = i then x else f j := by
  apply List.ext_getElem (by simp [fB])
  intro j h1 h2
  rw [List.getElem_set]
  simp only [fB, List.getElem_map, List.getElem_range]
  by_cases h : i = j
  · subst h; simp
  · rw [if_neg h, if_neg (Ne.symm h)]
theorem fB_days (L : List Sp) : fB 1024 (fun m => hit L m) = (dy L).map Value.bool := by simp [fB, dy]

/-- a slice that reads as spans -/
def SL (w : World) (S : Nat → Prop) (L : List Sp) (A : Option Addr) (cap : Nat) : Prop :=
  L.length ≤ cap ∧ cap ≤ maxLen ∧ (A = none → cap = 0) ∧ (0 < L.length → ∃ b o, A = some ⟨b, o, none⟩ ∧ S b ∧ ∀ i p, L[i]? = some p → w.cell? ⟨b, o + i * 2, none⟩ = some (.int .i64 p.1) ∧ w.cell? ⟨b, o + i * 2 + 1, none⟩ = some (.int .i64 p.2))
theorem SL.keep {w w' : World} {S S' : Nat → Prop} {L : List Sp} {A : Option Addr} {cap : Nat} (h : SL w S L A cap) (hs : ∀ i, S i → S' i ∧ w'.heap[i]? = w.heap[i]?) : SL w' S' L A cap := by
  refine ⟨h.1, h.2.1, h.2.2.1, fun hp => ?_⟩
  obtain ⟨b, o, e, hS, hc⟩ := h.2.2.2 hp
  exact ⟨b, o, e, (hs b hS).1, fun i p hi => ⟨(World.cell?_of_block (hs b hS).2).trans (hc i p hi).1, (World.cell?_of_block (hs b hS).2).trans (hc i p hi).2⟩⟩
theorem sl_nil (w : World) (S : Nat → Prop) : SL w S [] none 0 := ⟨Nat.le_refl _, Nat.zero_le _, fun _ => rfl, fun h => absurd h (by simp)⟩

/-- the end of a span in the calendar, as a count -/
def clN (e : Int) : Nat := (cl e).toNat
theorem clN_cl (e : Int) : ((clN e : Nat) : Int) = cl e := by unfold clN cl; omega
theorem clN_le (e : Int) : clN e ≤ 1024 := by unfold clN cl; omega

set_option maxHeartbeats 800000 in
theorem inCal_all (e : Int) (w : World) : Calls Try.prog 37 #[.int .i64 e] w fun r w' => r = .returned (.int .i64 (clN e : Nat)) ∧ w' = w := by
  go_enter Try.func37, Try.ntmps37
  go_wp2
  all_goals
    go_ret
    refine ⟨ret_int ?_, rfl⟩
    rw [clN_cl, cl]
    omega
end Go.Proofs.Ytofjbplojhlnoaa
