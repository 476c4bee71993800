/- Codec: values as forests, and how they lie in memory. Nothing of the program. -/
import Derived.Test.YtomiacedailmaaaRows
import Derived.WalkKit
namespace Go.Proofs.Ytomiacedailmaaa
open Go.RowKit

/-- a list of values: each has a kind, a number, a string, and its own list -/
inductive F where
  | nil
  | cons (k n : Int) (s : ByteArray) (kids rest : F)

structure V where
  k : Int
  n : Int
  s : ByteArray
  l : F

namespace F
def len : F → Nat
  | .nil => 0
  | .cons _ _ _ _ r => r.len + 1
def toList : F → List V
  | .nil => []
  | .cons k n s l r => ⟨k, n, s, l⟩ :: r.toList
def push (v : V) (f : F) : F := .cons v.k v.n v.s v.l f
def ofList : List V → F
  | [] => .nil
  | v :: r => push v (ofList r)
theorem len_toList (f : F) : f.toList.length = f.len := by
  induction f with
  | nil => rfl
  | cons k n s l r _ ih => simp [toList, len, ih]
theorem toList_ofList (l : List V) : (ofList l).toList = l := by
  induction l with
  | nil => rfl
  | cons v r ih => simp [ofList, push, toList, ih]
theorem ofList_toList (f : F) : ofList f.toList = f := by
  induction f with
  | nil => rfl
  | cons k n s l r _ ih => simp [ofList, push, toList, ih]
theorem toList_nil {f : F} (h : f.len = 0) : f = .nil := by
  cases f with
  | nil => rfl
  | cons => simp [len] at h
end F

/-- what holds of a value if it holds of the elements of its list holds of all values -/
theorem F.ind {P : V → Prop} (h : ∀ v : V, (∀ u ∈ v.l.toList, P u) → P v) (f : F) : ∀ u ∈ f.toList, P u := by
  induction f with
  | nil => intro u hu; cases hu
  | cons k n s l r ihl ihr =>
    intro u hu
    rcases List.mem_cons.1 hu with rfl | hu
    · exact h _ ihl
    · exact ihr u hu
theorem V.ind {P : V → Prop} (h : ∀ v : V, (∀ u ∈ v.l.toList, P u) → P v) (v : V) : P v := h v (F.ind h v.l)

/-- the numbers of a value are of Go's width, its string is of Go's length -/
def Fits (k n : Int) (s : ByteArray) : Prop :=
  -9223372036854775808 ≤ k ∧ k ≤ 9223372036854775807 ∧ -9223372036854775808 ≤ n ∧ n ≤ 9223372036854775807 ∧ s.size ≤ maxLen

/-- the forest lies from ⟨b, o⟩ on: each element four cells; all blocks are in S -/
def F.Rd (w : World) (S : Nat → Prop) : F → Nat → Nat → Prop
  | .nil, _, _ => True
  | .cons k n s l r, b, o => Fits k n s ∧ w.cell? ⟨b, o, none⟩ = some (.int .i64 k) ∧ w.cell? ⟨b, o + 1, none⟩ = some (.int .i64 n) ∧ w.cell? ⟨b, o + 2, none⟩ = some (.string s) ∧
      (∃ A cap, w.cell? ⟨b, o + 3, none⟩ = some (.slice A l.len cap) ∧ l.len ≤ cap ∧ cap ≤ maxLen ∧ (0 < l.len → ∃ b' o', A = some ⟨b', o', none⟩ ∧ S b' ∧ F.Rd w S l b' o')) ∧
      F.Rd w S r b (o + 4)

/-- the slice value reads as the forest -/
def Sl (w : World) (S : Nat → Prop) (f : F) (A : Option Addr) (cap : Nat) : Prop :=
  f.len ≤ cap ∧ cap ≤ maxLen ∧ (0 < f.len → ∃ b o, A = some ⟨b, o, none⟩ ∧ S b ∧ f.Rd w S b o)

/-- the four cells of a value -/
abbrev V.val (v : V) (A : Option Addr) (cap : Nat) : Value := .agg #[.int .i64 v.k, .int .i64 v.n, .string v.s, .slice A v.l.len cap]

def RdV (w : World) (S : Nat → Prop) (v : V) (A : Option Addr) (cap : Nat) : Prop := Fits v.k v.n v.s ∧ Sl w S v.l A cap

theorem F.Rd.keep {w w' : World} {S S' : Nat → Prop} (f : F) : ∀ {b o : Nat}, F.Rd w S f b o → S b → (∀ i, S i → S' i ∧ w'.heap[i]? = w.heap[i]?) → F.Rd w' S' f b o := by
  induction f with
  | nil => intros; trivial
  | cons k n s l r ihl ihr =>
    intro b o h hb hs
    have cell : ∀ i, w'.cell? ⟨b, i, none⟩ = w.cell? ⟨b, i, none⟩ := fun i => World.cell?_of_block (hs b hb).2
    obtain ⟨hf, h0, h1, h2, ⟨A, cap, h3, hc, hm, hk⟩, hr⟩ := h
    refine ⟨hf, by rw [cell, h0], by rw [cell, h1], by rw [cell, h2], ⟨A, cap, by rw [cell, h3], hc, hm, fun hp => ?_⟩, ihr hr hb hs⟩
    obtain ⟨b', o', e, hS, hl⟩ := hk hp
    exact ⟨b', o', e, (hs b' hS).1, ihl hl hS hs⟩
theorem Sl.keep {w w' : World} {S S' : Nat → Prop} {f : F} {A : Option Addr} {cap : Nat} (h : Sl w S f A cap) (hs : ∀ i, S i → S' i ∧ w'.heap[i]? = w.heap[i]?) : Sl w' S' f A cap := by
  refine ⟨h.1, h.2.1, fun hp => ?_⟩
  obtain ⟨b, o, e, hS, hr⟩ := h.2.2 hp
  exact ⟨b, o, e, (hs b hS).1, hr.keep f hS hs⟩
theorem RdV.keep {w w' : World} {S S' : Nat → Prop} {v : V} {A : Option Addr} {cap : Nat} (h : RdV w S v A cap) (hs : ∀ i, S i → S' i ∧ w'.heap[i]? = w.heap[i]?) : RdV w' S' v A cap :=
  ⟨h.1, h.2.keep hs⟩
theorem Sl.below {B : Nat} {w w' : World} {f : F} {A : Option Addr} {cap : Nat} (h : Sl w (· < B) f A cap) (hb : Below B w w') : Sl w' (· < B) f A cap := h.keep fun i hi => ⟨hi, hb.block i hi⟩
theorem RdV.below {B : Nat} {w w' : World} {v : V} {A : Option Addr} {cap : Nat} (h : RdV w (· < B) v A cap) (hb : Below B w w') : RdV w' (· < B) v A cap := h.keep fun i hi => ⟨hi, hb.block i hi⟩

theorem F.Rd.at_ {w : World} {S : Nat → Prop} (f : F) : ∀ {b o i : Nat}, F.Rd w S f b o → i < f.len →
    ∃ v A cap, f.toList[i]? = some v ∧ RdV w S v A cap ∧ w.cell? ⟨b, o + i * 4, none⟩ = some (.int .i64 v.k) ∧ w.cell? ⟨b, o + i * 4 + 1, none⟩ = some (.int .i64 v.n) ∧
      w.cell? ⟨b, o + i * 4 + 2, none⟩ = some (.string v.s) ∧ w.cell? ⟨b, o + i * 4 + 3, none⟩ = some (.slice A v.l.len cap) := by
  induction f with
  | nil => intro b o i _ hi; simp [len] at hi
  | cons k n s l r _ ihr =>
    intro b o i h hi
    obtain ⟨hf, h0, h1, h2, ⟨A, cap, h3, hc, hm, hk⟩, hr⟩ := h
    cases i with
    | zero => exact ⟨⟨k, n, s, l⟩, A, cap, rfl, ⟨hf, hc, hm, hk⟩, h0, h1, h2, h3⟩
    | succ i =>
      obtain ⟨v, A, cap, e, hv, c0, c1, c2, c3⟩ := ihr hr (by simpa [len] using hi)
      refine ⟨v, A, cap, by simpa [toList] using e, hv, ?_, ?_, ?_, ?_⟩
      · rw [show o + (i + 1) * 4 = o + 4 + i * 4 from by omega]; exact c0
      · rw [show o + (i + 1) * 4 + 1 = o + 4 + i * 4 + 1 from by omega]; exact c1
      · rw [show o + (i + 1) * 4 + 2 = o + 4 + i * 4 + 2 from by omega]; exact c2
      · rw [show o + (i + 1) * 4 + 3 = o + 4 + i * 4 + 3 from by omega]; exact c3
theorem Sl.at_ {w : World} {S : Nat → Prop} {f : F} {A : Option Addr} {cap i : Nat} (h : Sl w S f A cap) (hi : i < f.len) :
    ∃ b o v A' cap', A = some ⟨b, o, none⟩ ∧ S b ∧ f.toList[i]? = some v ∧ RdV w S v A' cap' ∧ w.cell? ⟨b, o + i * 4, none⟩ = some (.int .i64 v.k) ∧ w.cell? ⟨b, o + i * 4 + 1, none⟩ = some (.int .i64 v.n) ∧
      w.cell? ⟨b, o + i * 4 + 2, none⟩ = some (.string v.s) ∧ w.cell? ⟨b, o + i * 4 + 3, none⟩ = some (.slice A' v.l.len cap') := by
  obtain ⟨b, o, e, hS, hr⟩ := h.2.2 (by omega)
  obtain ⟨v, A', cap', hv⟩ := hr.at_ f hi
  exact ⟨b, o, v, A', cap', e, hS, hv⟩
end Go.Proofs.Ytomiacedailmaaa
