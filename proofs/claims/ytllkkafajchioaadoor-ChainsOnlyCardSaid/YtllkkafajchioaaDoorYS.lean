/- Chains: two new boxes of digests, made in any order (as for the digests). -/
import Derived.Test.YtllkkafajchioaaDoorXX
namespace Go.Proofs.YtllkkafajchioaaDoor
open Go.RowKit

/-- two new boxes of digests, each made or not yet -/
structure St (w2 : World) (x y : Option (Nat × List UInt8)) (ww : World) : Prop where
  below : Below w2.heap.size w2 ww
  one : ∀ g l, x = some (g, l) → RowB ww g 23 l ∧ w2.heap.size ≤ g
  two : ∀ g l, y = some (g, l) → RowB ww g 23 l ∧ w2.heap.size ≤ g
  apart : ∀ g l g' l', x = some (g, l) → y = some (g', l') → g ≠ g'
theorem St.step {w2 ww w' : World} {x y : Option (Nat × List UInt8)} (h : St w2 x y ww) (hb : Below ww.heap.size ww w') : St w2 x y w' :=
  ⟨h.below.trans (hb.mono h.below.size), fun g l e => ⟨(h.one g l e).1.keep (hb.block _ (h.one g l e).1.lt), (h.one g l e).2⟩, fun g l e => ⟨(h.two g l e).1.keep (hb.block _ (h.two g l e).1.lt), (h.two g l e).2⟩, h.apart⟩
theorem zlit : (U (flb 32 [])).toArray = #[Value.int IntKind.u8 0, Value.int IntKind.u8 0, Value.int IntKind.u8 0, Value.int IntKind.u8 0, Value.int IntKind.u8 0, Value.int IntKind.u8 0, Value.int IntKind.u8 0, Value.int IntKind.u8 0, Value.int IntKind.u8 0, Value.int IntKind.u8 0, Value.int IntKind.u8 0, Value.int IntKind.u8 0, Value.int IntKind.u8 0, Value.int IntKind.u8 0, Value.int IntKind.u8 0, Value.int IntKind.u8 0, Value.int IntKind.u8 0, Value.int IntKind.u8 0, Value.int IntKind.u8 0, Value.int IntKind.u8 0, Value.int IntKind.u8 0, Value.int IntKind.u8 0, Value.int IntKind.u8 0, Value.int IntKind.u8 0, Value.int IntKind.u8 0, Value.int IntKind.u8 0, Value.int IntKind.u8 0, Value.int IntKind.u8 0, Value.int IntKind.u8 0, Value.int IntKind.u8 0, Value.int IntKind.u8 0, Value.int IntKind.u8 0] := rfl
theorem St.new1 {w2 ww : World} {y : Option (Nat × List UInt8)} (h : St w2 none y ww) : St w2 (some (ww.heap.size, flb 32 [])) y (ww.alloc (.cells #[Value.int IntKind.u8 0, Value.int IntKind.u8 0, Value.int IntKind.u8 0, Value.int IntKind.u8 0, Value.int IntKind.u8 0, Value.int IntKind.u8 0, Value.int IntKind.u8 0, Value.int IntKind.u8 0, Value.int IntKind.u8 0, Value.int IntKind.u8 0, Value.int IntKind.u8 0, Value.int IntKind.u8 0, Value.int IntKind.u8 0, Value.int IntKind.u8 0, Value.int IntKind.u8 0, Value.int IntKind.u8 0, Value.int IntKind.u8 0, Value.int IntKind.u8 0, Value.int IntKind.u8 0, Value.int IntKind.u8 0, Value.int IntKind.u8 0, Value.int IntKind.u8 0, Value.int IntKind.u8 0, Value.int IntKind.u8 0, Value.int IntKind.u8 0, Value.int IntKind.u8 0, Value.int IntKind.u8 0, Value.int IntKind.u8 0, Value.int IntKind.u8 0, Value.int IntKind.u8 0, Value.int IntKind.u8 0, Value.int IntKind.u8 0] 23)) := by
  rw [← zlit]
  exact ⟨h.below.alloc h.below.size _, fun g l e => by injection e with e; injection e with e1 e2; subst e1 e2; exact ⟨heap_alloc_new ww _, h.below.size⟩, fun g l e => ⟨(h.two g l e).1.keep (Below.heap_alloc _ _ _ (h.two g l e).1.lt), (h.two g l e).2⟩,
    fun g l g' l' e e' => by injection e with e; injection e with e1 e2; subst e1 e2; have := (h.two g' l' e').1.lt; omega⟩
theorem St.new2 {w2 ww : World} {x : Option (Nat × List UInt8)} (h : St w2 x none ww) : St w2 x (some (ww.heap.size, flb 32 [])) (ww.alloc (.cells #[Value.int IntKind.u8 0, Value.int IntKind.u8 0, Value.int IntKind.u8 0, Value.int IntKind.u8 0, Value.int IntKind.u8 0, Value.int IntKind.u8 0, Value.int IntKind.u8 0, Value.int IntKind.u8 0, Value.int IntKind.u8 0, Value.int IntKind.u8 0, Value.int IntKind.u8 0, Value.int IntKind.u8 0, Value.int IntKind.u8 0, Value.int IntKind.u8 0, Value.int IntKind.u8 0, Value.int IntKind.u8 0, Value.int IntKind.u8 0, Value.int IntKind.u8 0, Value.int IntKind.u8 0, Value.int IntKind.u8 0, Value.int IntKind.u8 0, Value.int IntKind.u8 0, Value.int IntKind.u8 0, Value.int IntKind.u8 0, Value.int IntKind.u8 0, Value.int IntKind.u8 0, Value.int IntKind.u8 0, Value.int IntKind.u8 0, Value.int IntKind.u8 0, Value.int IntKind.u8 0, Value.int IntKind.u8 0, Value.int IntKind.u8 0] 23)) := by
  rw [← zlit]
  exact ⟨h.below.alloc h.below.size _, fun g l e => ⟨(h.one g l e).1.keep (Below.heap_alloc _ _ _ (h.one g l e).1.lt), (h.one g l e).2⟩, fun g l e => by injection e with e; injection e with e1 e2; subst e1 e2; exact ⟨heap_alloc_new ww _, h.below.size⟩,
    fun g l g' l' e e' => by injection e' with e'; injection e' with e1 e2; subst e1 e2; have := (h.one g l e).1.lt; omega⟩
theorem St.set1 {w2 ww : World} {y : Option (Nat × List UInt8)} {g : Nat} {l : List UInt8} (h : St w2 (some (g, l)) y ww) (l' : List UInt8) : St w2 (some (g, l')) y (ww.setRow g (U l').toArray) :=
  ⟨below_setRow h.below (h.one g l rfl).2 _, fun k m e => by injection e with e; injection e with e1 e2; subst e1 e2; exact ⟨(h.one g l rfl).1.setRow l', (h.one g l rfl).2⟩,
    fun k m e => ⟨(h.two k m e).1.keep (setRow_other _ _ _ _ (h.apart g l k m rfl e).symm), (h.two k m e).2⟩, fun k m k' m' e e' => by injection e with e; injection e with e1 e2; subst e1 e2; exact h.apart g l k' m' rfl e'⟩
theorem St.set2 {w2 ww : World} {x : Option (Nat × List UInt8)} {g : Nat} {l : List UInt8} (h : St w2 x (some (g, l)) ww) (l' : List UInt8) : St w2 x (some (g, l')) (ww.setRow g (U l').toArray) :=
  ⟨below_setRow h.below (h.two g l rfl).2 _, fun k m e => ⟨(h.one k m e).1.keep (setRow_other _ _ _ _ (h.apart k m g l e rfl)), (h.one k m e).2⟩, fun k m e => by injection e with e; injection e with e1 e2; subst e1 e2; exact ⟨(h.two g l rfl).1.setRow l', (h.two g l rfl).2⟩,
    fun k m k' m' e e' => by injection e' with e'; injection e' with e1 e2; subst e1 e2; exact h.apart k m g l e rfl⟩
theorem St.swap {w2 ww : World} {x y : Option (Nat × List UInt8)} (h : St w2 x y ww) : St w2 y x ww := ⟨h.below, h.two, h.one, fun g l g' l' e e' => (h.apart g' l' g l e' e).symm⟩
theorem St.drew {w2 ww : World} {x y : Option (Nat × List UInt8)} (h : St w2 x y ww) : St w2 x y ww.drew := ⟨h.below.drew, h.one, h.two, h.apart⟩
theorem St.base (w2 : World) : St w2 none none w2 := ⟨Below.refl _ _, (fun _ _ e => by cases e), (fun _ _ e => by cases e), (fun _ _ _ _ e _ => by cases e)⟩
end Go.Proofs.YtllkkafajchioaaDoor
