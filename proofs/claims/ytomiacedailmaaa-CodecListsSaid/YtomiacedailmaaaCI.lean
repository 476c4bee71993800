/- Codec: what writes values. -/
import Derived.Test.YtomiacedailmaaaCH
import Derived.OneCell
namespace Go.Proofs.Ytomiacedailmaaa
open Go.RowKit

def isU8 (w : World) (k : Nat) : Prop := ∃ c fr, w.heap[k]? = some (.cells c 5 fr)

/-- what a writer leaves alone: all blocks but cb, and but the rows of bytes behind cb -/
structure Keeps (cb : Nat) (w w' : World) : Prop where
  os : w'.os = w.os
  tape : w'.tape = w.tape
  output : w'.output = w.output
  size : w.heap.size ≤ w'.heap.size
  block : ∀ k, k < w.heap.size → k ≠ cb → (k < cb ∨ ¬ isU8 w k) → w'.heap[k]? = w.heap[k]?

theorem Keeps.refl (cb : Nat) (w : World) : Keeps cb w w := ⟨rfl, rfl, rfl, Nat.le_refl _, fun _ _ _ _ => rfl⟩
theorem Keeps.trans {cb : Nat} {a b c : World} (h : Keeps cb a b) (k : Keeps cb b c) : Keeps cb a c :=
  ⟨k.os.trans h.os, k.tape.trans h.tape, k.output.trans h.output, Nat.le_trans h.size k.size, fun i hi hne hx => by
    have e := h.block i hi hne hx
    have hx' : i < cb ∨ ¬ isU8 b i := by
      rcases hx with hx | hx
      · exact .inl hx
      · exact .inr (by unfold isU8; rw [e]; exact hx)
    rw [k.block i (by have := h.size; omega) hne hx', e]⟩
theorem Keeps.below {cb : Nat} {w w' : World} (h : Below w.heap.size w w') : Keeps cb w w' := ⟨h.os, h.tape, h.output, h.size, fun k hk _ _ => h.block k hk⟩
theorem Keeps.alloc (cb : Nat) (w : World) (o : Obj) : Keeps cb w (w.alloc o) := Keeps.below ((Below.refl _ _).alloc (Nat.le_refl _) o)
theorem Keeps.to_below {cb : Nat} {w w' : World} (h : Keeps cb w w') (hc : cb ≤ w.heap.size) : Below cb w w' :=
  ⟨h.os, h.tape, h.output, h.size, fun k hk => h.block k (by omega) (by omega) (.inl hk)⟩
theorem Keeps.cells {cb : Nat} {w w' : World} (h : Keeps cb w w') {k : Nat} {c : Array Value} {t : TypeId} {fr : Nat × Nat} (hk : w.heap[k]? = some (.cells c t fr)) (ht : t ≠ 5) (hne : k ≠ cb) : w'.heap[k]? = some (.cells c t fr) := by
  rw [h.block k (Array.getElem?_eq_some_iff.1 hk).1 hne (.inr ?_), hk]
  rintro ⟨c', fr', h'⟩
  rw [hk] at h'
  injection h' with h'
  injection h' with _ h'
  exact ht h'

/-- where an encoding goes: two functions, and what they have got so far -/
structure Out (fd ft : FuncId) (cb : Nat) (St : World → List UInt8 → Prop) : Prop where
  ed : ∀ (args : Array Value) (w : World), (callFunc fd args).run Try.prog w = .ok (.enter fd args) w
  et : ∀ (args : Array Value) (w : World), (callFunc ft args).run Try.prog w = .ok (.enter ft args) w
  lt : ∀ {w l}, St w l → cb < w.heap.size
  alloc : ∀ {w l} (o : Obj), St w l → St (w.alloc o) l
  drew : ∀ {w l}, St w l → St w.drew l
  digit : ∀ (w : World) (l : List UInt8) (c : Int), St w l → l.length < 1099511627776 → 0 ≤ c → c < 256 →
    Calls Try.prog fd #[.int .u8 c, .pointer (some ⟨cb, 0, none⟩)] w fun e w' => e = .returned (.tuple #[]) ∧ St w' (l ++ [UInt8.ofNat c.toNat]) ∧ Keeps cb w w'
  text : ∀ (w : World) (l : List UInt8) (s : ByteArray), St w l → l.length + s.size < 1099511627776 →
    Calls Try.prog ft #[.string s, .pointer (some ⟨cb, 0, none⟩)] w fun e w' => e = .returned (.tuple #[]) ∧ St w' (l ++ s.data.toList) ∧ Keeps cb w w'

abbrev outv (fd ft : FuncId) (cb : Nat) : Value := .agg #[.func (.func fd) #[] #[.pointer (some ⟨cb, 0, none⟩)], .func (.func ft) #[] #[.pointer (some ⟨cb, 0, none⟩)]]

theorem or_128 (u : Int) (h0 : 0 ≤ u) : bits .or .u8 (u % 256) 128 = u % 128 + 128 := by
  rw [u8_or _ _ (by omega) (by omega) (by omega) (by omega)]
  obtain ⟨n, rfl⟩ := Int.eq_ofNat_of_zero_le h0
  have e : ((n : Int) % 256).toNat = n % 256 := by omega
  rw [e]
  have : n % 256 ||| 128 = n % 128 + 128 := by
    have hl : n % 256 < 256 := Nat.mod_lt _ (by omega)
    have hm : n % 128 = (n % 256) % 128 := by omega
    rw [hm]
    exact (by decide +kernel : ∀ m, m < 256 → m ||| 128 = m % 128 + 128) _ hl
  show ((n % 256 ||| 128 : Nat) : Int) = _
  rw [this]
  omega

set_option maxHeartbeats 800000 in
theorem writeNumeral_all {fd ft : FuncId} {cb : Nat} {St : World → List UInt8 → Prop} (O : Out fd ft cb St) (u : Int) (l : List UInt8) (w : World) (h0 : 0 ≤ u) (h1 : u ≤ 18446744073709551615) (hs : St w l) (hl : l.length + 10 < 1099511627776) :
    Calls Try.prog 58 #[.int .u64 u, outv fd ft cb] w fun e w' => e = .returned (.tuple #[]) ∧ St w' (l ++ numf 10 u.toNat) ∧ Keeps cb w w' := by
  have OO := Lib.hid O
  have ed := O.ed
  clear O
  go_enter Try.func58, Try.ntmps58
  go_wp2_with fail
  go_loopw [0] (fun x wr => ∃ (u' : Int) (g : Nat) (l' : List UInt8), x = .int .u64 u' ∧ 0 ≤ u' ∧ u' ≤ 18446744073709551615 ∧ u' < 128 ^ (g + 1) ∧ g < 10 ∧ l'.length + g < 1099511627776 ∧ St wr l' ∧ l ++ numf 10 u.toNat = l' ++ numf (g + 1) u'.toNat ∧
      Keeps cb (w.alloc (.cells #[.func (.func fd) #[] #[.pointer (some ⟨cb, 0, none⟩)], .func (.func ft) #[] #[.pointer (some ⟨cb, 0, none⟩)]] 51)) wr) (fun x _ => (intOf x).toNat)
  case atStart => exact ⟨u, 9, l, rfl, h0, h1, by omega, by omega, by omega, OO.out.alloc _ hs, rfl, Keeps.refl _ _⟩
  case round =>
    obtain ⟨u', g, l', rfl, h0', h1', hg, hg10, hl', hst, hnum, hk⟩ := hrel
    have HST := Lib.hid hst
    have HN := Lib.hid hnum
    have HK := Lib.hid hk
    have hbox := hk.cells (heap_alloc_new w _) (by decide) (by have := OO.out.lt hs; omega)
    have c0 : wr.cell? ⟨w.heap.size, 0, none⟩ = some (.func (.func fd) #[] #[.pointer (some ⟨cb, 0, none⟩)]) := by rw [cell_of_row wr _ _ _ _ _ hbox]; rfl
    clear hst hnum hk hbox
    by_cases hlt : u' < 128
    · clear hg
      have C := Lib.hid (OO.out.digit wr l' u' HST.out (by omega) h0' (by omega))
      go_wp2_with fail
      refine C.out.mono ?_
      rintro e w' ⟨rfl, hst, hk2⟩
      have HS2 := Lib.hid hst
      have HK2 := Lib.hid hk2
      clear hst hk2 c0
      go_wp2
      go_end0
      refine ⟨rfl, ?_, (Keeps.alloc _ _ _).trans (HK.out.trans HK2.out)⟩
      rw [HN.out, numf, if_pos (by omega)]
      exact HS2.out
    · have hq : u' / 128 < 128 ^ g := by rw [Int.pow_succ] at hg; omega
      have hgp : 0 < g := by
        rcases Nat.eq_zero_or_pos g with h | h
        · subst h; simp at hq; omega
        · exact h
      have HQ := Lib.hid hq
      clear hg hq
      have e := or_128 u' h0'
      have C := Lib.hid (OO.out.digit wr l' (u' % 128 + 128) HST.out (by omega) (by omega) (by omega))
      rw [← e] at C
      clear e
      go_wp2_with fail
      refine C.out.mono ?_
      rintro e w' ⟨rfl, hst, hk2⟩
      rw [or_128 u' h0'] at hst
      have HS2 := Lib.hid hst
      have HK2 := Lib.hid hk2
      clear hst hk2 c0
      go_wp2
      go_roundw
      case rel =>
        refine ⟨u' / 128, g - 1, l' ++ [UInt8.ofNat (u' % 128 + 128).toNat], rfl, by omega, by omega, ?_, by omega, by simp; omega, HS2.out, ?_, HK.out.trans HK2.out⟩
        · rw [show g - 1 + 1 = g from by omega]; exact HQ.out
        · rw [HN.out, numf, if_neg (by omega), List.append_assoc]
          congr 1
          obtain ⟨n, rfl⟩ := Int.eq_ofNat_of_zero_le h0'
          rw [show g - 1 + 1 = g from by omega]
          rfl
      case measure => simp [intOf]; omega
end Go.Proofs.Ytomiacedailmaaa
