/- Codec: the reader. -/
import Derived.Test.YtomiacedailmaaaCN
namespace Go.Proofs.Ytomiacedailmaaa
open Go.RowKit

/-- a slice of bytes that reads as l; its cells are in blocks of S -/
def Byt (w : World) (S : Nat → Prop) (l : List UInt8) (A : Option Addr) (cap : Nat) : Prop :=
  l.length ≤ cap ∧ cap ≤ maxLen ∧ (0 < l.length → ∃ b o, A = some ⟨b, o, none⟩ ∧ S b ∧ ∀ i u, (U l)[i]? = some u → w.cell? ⟨b, o + i, none⟩ = some u)
theorem Byt.keep {w w' : World} {S S' : Nat → Prop} {l : List UInt8} {A : Option Addr} {cap : Nat} (h : Byt w S l A cap) (hs : ∀ i, S i → S' i ∧ w'.heap[i]? = w.heap[i]?) : Byt w' S' l A cap := by
  refine ⟨h.1, h.2.1, fun hp => ?_⟩
  obtain ⟨b, o, e, hS, hc⟩ := h.2.2 hp
  exact ⟨b, o, e, (hs b hS).1, fun i u hu => (World.cell?_of_block (hs b hS).2).trans (hc i u hu)⟩
theorem U_at {l : List UInt8} {i : Nat} (h : i < l.length) : (U l)[i]? = some (.int .u8 (l[i].toNat : Int)) := by
  simp [U, h]
theorem Byt.at_ {w : World} {S : Nat → Prop} {l : List UInt8} {A : Option Addr} {cap i : Nat} (h : Byt w S l A cap) (hi : i < l.length) :
    ∃ b o, A = some ⟨b, o, none⟩ ∧ S b ∧ w.cell? ⟨b, o + i, none⟩ = some (.int .u8 (l[i].toNat : Int)) := by
  obtain ⟨b, o, e, hS, hc⟩ := h.2.2 (by omega)
  exact ⟨b, o, e, hS, hc i _ (U_at hi)⟩

/-- the reader at block rb: what remains is l; its bytes are below B -/
def Rdr (w : World) (rb B : Nat) (l : List UInt8) : Prop := ∃ A cap, w.heap[rb]? = some (.cells #[.slice A l.length cap] 56 (0, 0)) ∧ Byt w (· < B) l A cap

theorem rdr_set {w : World} {rb B : Nat} {v : Value} {l : List UInt8} {A : Option Addr} {n cap : Nat} (hc : w.heap[rb]? = some (.cells #[v] 56 (0, 0))) (hB : B ≤ rb) (hb : Byt w (· < B) l A cap) (hn : n = l.length) :
    Rdr (w.setCell ⟨rb, 0, none⟩ (.slice A n cap)).drew rb B l ∧ w.grownBy (w.setCell ⟨rb, 0, none⟩ (.slice A n cap)).drew (some rb) := by
  subst hn
  refine ⟨⟨A, cap, one_setCell hc, hb.keep fun i hi => ⟨hi, Below.heap_setCell _ _ _ _ (by show i ≠ rb; omega)⟩⟩, ⟨rfl, rfl, rfl, ?_, fun k hk hne => ?_⟩⟩
  · show _ ≤ (w.setCell _ _).heap.size
    simp [World.setCell]
  · exact Below.heap_setCell _ _ _ _ (by rintro rfl; exact hne rfl)
theorem byt_take {w : World} {S : Nat → Prop} {l : List UInt8} {A : Option Addr} {cap : Nat} (h : Byt w S l A cap) {n : Nat} (hn : n ≤ l.length) : Byt w S (l.take n) A n := by
  refine ⟨by simp; omega, by have := h.1; have := h.2.1; omega, fun hp => ?_⟩
  obtain ⟨b, o, e, hS, hc⟩ := h.2.2 (by simp at hp; omega)
  refine ⟨b, o, e, hS, fun i u hu => hc i u ?_⟩
  rw [← hu]
  have hi : i < n := by
    by_cases hlt : i < n
    · exact hlt
    · rw [List.getElem?_eq_none (by simp [U]; omega)] at hu; cases hu
  simp [U, hi]
theorem byt_drop {w : World} {S : Nat → Prop} {l : List UInt8} {A : Option Addr} {cap : Nat} (h : Byt w S l A cap) {n : Nat} (hn : n < l.length) : Byt w S (l.drop n) (Option.map (fun x => x.add n) A) (l.length - n) := by
  refine ⟨by simp, by have := h.1; have := h.2.1; omega, fun hp => ?_⟩
  obtain ⟨b, o, rfl, hS, hc⟩ := h.2.2 (by omega)
  refine ⟨b, o + n, ?_, hS, fun i u hu => ?_⟩
  · unfold Addr.add
    simp
  · have := hc (n + i) u (by rw [← hu]; simp [U])
    rw [show o + n + i = o + (n + i) from by omega]
    exact this

abbrev boom : List PanicEntry := [{ v := .iface 28 (.int .i64 10), recovered := false }]

set_option maxHeartbeats 400000 in
theorem fail_all (p : Value) (w : World) : Calls Try.prog 38 #[p] w fun e w' => e = .panicked boom ∧ w = w' := by
  go_enter Try.func38, Try.ntmps38
  go_wp2
  exact ⟨rfl, rfl, rfl⟩

set_option maxRecDepth 100000 in
set_option maxHeartbeats 800000 in
theorem take_ok (rb B : Nat) (l : List UInt8) (n : Nat) (w : World) (hr : Rdr w rb B l) (hB : B ≤ rb) (hn : n ≤ l.length) :
    Calls Try.prog 50 #[.pointer (some ⟨rb, 0, none⟩), .int .u64 n] w fun e w' => ∃ A, e = .returned (.slice A n n) ∧ Byt w (· < B) (l.take n) A n ∧ Rdr w' rb B (l.drop n) ∧ w.grownBy w' (some rb) := by
  obtain ⟨A, cap, hc, hb⟩ := hr
  have c0 := cell_of_one hc
  have f0 := free_of_one hc
  have HC := Lib.hid hc
  have hm := hb.2.1
  have hm2 := hb.1
  unfold maxLen at hm
  have HB := Lib.hid hb
  clear hc hb
  go_enter Try.func50, Try.ntmps50
  go_wp2_with fail
  go_region
  by_cases hln : l.length = n
  · subst hln
    have hx := rdr_set (n := l.length - l.length) (l := []) (A := A) (cap := l.length - l.length) HC.out hB ⟨Nat.zero_le _, by simp, fun h => absurd h (by simp)⟩ (by simp)
    have HX := Lib.hid hx
    clear hx
    go_wp2
    go_ret
    exact ⟨A, rfl, byt_take HB.out hn, by rw [List.drop_of_length_le (Nat.le_refl _)]; exact HX.out.1, HX.out.2⟩
  · have hx := rdr_set (n := l.length - n) (l := l.drop n) HC.out hB (byt_drop (n := n) HB.out (by omega)) (by simp)
    have HX := Lib.hid hx
    clear hx
    go_wp2
    go_ret
    exact ⟨A, rfl, byt_take HB.out hn, HX.out.1, HX.out.2⟩

set_option maxRecDepth 100000 in
set_option maxHeartbeats 800000 in
theorem take_bad (rb B : Nat) (l : List UInt8) (n : Int) (w : World) (hr : Rdr w rb B l) (hn : (l.length : Int) < n) (hn2 : n ≤ 18446744073709551615) :
    Calls Try.prog 50 #[.pointer (some ⟨rb, 0, none⟩), .int .u64 n] w fun e w' => e = .panicked boom ∧ w = w' := by
  obtain ⟨A, cap, hc, hb⟩ := hr
  have c0 := cell_of_one hc
  have f0 := free_of_one hc
  have hm := hb.2.1
  have hm2 := hb.1
  unfold maxLen at hm
  clear hc hb
  go_enter Try.func50, Try.ntmps50
  go_wp2_with (go_at_call 38; refine (fail_all _ _).mono ?_; rintro e w' ⟨rfl, rfl⟩)
  exact ⟨rfl, rfl, rfl⟩

set_option maxRecDepth 100000 in
set_option maxHeartbeats 800000 in
theorem digit_ok (rb B : Nat) (c : UInt8) (l : List UInt8) (w : World) (hr : Rdr w rb B (c :: l)) (hB : B ≤ rb) :
    Calls Try.prog 47 #[.pointer (some ⟨rb, 0, none⟩)] w fun e w' => e = .returned (.int .u8 c.toNat) ∧ Rdr w' rb B l ∧ w.grownBy w' (some rb) := by
  have C := Lib.hid (take_ok rb B (c :: l) 1 w hr hB (by simp))
  clear hr
  go_enter Try.func47, Try.ntmps47
  go_wp2_with fail
  refine C.out.mono ?_
  rintro e w' ⟨A, rfl, hb, hr, hg⟩
  obtain ⟨b, o, rfl, hlt, h0⟩ := hb.at_ (i := 0) (by simp)
  have c0 : w'.cell? ⟨b, o, none⟩ = some (.int .u8 (c.toNat : Int)) := (World.cell?_of_block (w := w) (hg.block b (World.block_lt_of_cell? w _ h0) (by intro e; injection e; omega))).trans h0
  have HR := Lib.hid hr
  have HG := Lib.hid hg
  clear hb hr hg h0
  go_wp2
  go_ret
  exact ⟨rfl, HR.out, HG.out⟩

set_option maxRecDepth 100000 in
set_option maxHeartbeats 800000 in
theorem digit_bad (rb B : Nat) (w : World) (hr : Rdr w rb B []) :
    Calls Try.prog 47 #[.pointer (some ⟨rb, 0, none⟩)] w fun e w' => e = .panicked boom ∧ w = w' := by
  have C := Lib.hid (take_bad rb B [] 1 w hr (by simp) (by omega))
  clear hr
  go_enter Try.func47, Try.ntmps47
  go_wp2_with fail
  refine C.out.mono ?_
  rintro e w' ⟨rfl, rfl⟩
  exact ⟨rfl, rfl, rfl⟩
end Go.Proofs.Ytomiacedailmaaa
