/- Codec: the reader's values. -/
import Derived.Test.YtomiacedailmaaaCQ
namespace Go.Proofs.Ytomiacedailmaaa
open Go.RowKit

/-- n values, one after the other -/
def manyP (p : List UInt8 → Option (V × List UInt8)) : Nat → List UInt8 → Option (List V × List UInt8)
  | 0, l => some ([], l)
  | n + 1, l => match p l with
    | none => none
    | some (v, l1) => match manyP p n l1 with
      | none => none
      | some (vs, l2) => some (v :: vs, l2)
/-- what follows a list's kind -/
def listP (p : List UInt8 → Option (V × List UInt8)) (l : List UInt8) : Option (List V × List UInt8) :=
  match numP 10 0 l with
  | none => none
  | some (n, l1) => manyP p n l1
/-- a value; d more lists may stand one in another -/
def valP : Nat → List UInt8 → Option (V × List UInt8)
  | _, [] => none
  | d, c :: r =>
    if c.toNat = 1 then (match numP 10 0 r with | none => none | some (u, l1) => some (⟨1, sgn u, ⟨#[]⟩, .nil⟩, l1))
    else if c.toNat = 2 then (match numP 10 0 r with | none => none | some (u, l1) => if u ≤ l1.length then some (⟨2, 0, ⟨(l1.take u).toArray⟩, .nil⟩, l1.drop u) else none)
    else if c.toNat = 3 then (match d with | 0 => none | d' + 1 => (match listP (valP d') r with | none => none | some (vs, l1) => some (⟨3, 0, ⟨#[]⟩, F.ofList vs⟩, l1)))
    else none

theorem numP_lt : ∀ (g acc : Nat) (l : List UInt8) (u : Nat) (l2 : List UInt8), g < 10 → acc < 128 ^ (9 - g) → numP (g + 1) acc l = some (u, l2) → u < 18446744073709551616 ∧ l2.length < l.length
  | g, acc, [], u, l2, _, _, h => by cases g <;> simp [numP] at h
  | g, acc, c :: r, u, l2, hg, ha, h => by
    rw [numP] at h
    split at h
    · cases h
    · rename_i hf
      split at h
      · injection h with h
        injection h with h1 h2
        subst h2
        refine ⟨?_, by simp⟩
        rw [← h1]
        have hc := c.toNat_lt
        have hp : 128 ^ (9 - g) ≤ 128 ^ 9 := Nat.pow_le_pow_right (by omega) (by omega)
        rcases Nat.eq_zero_or_pos g with h0 | h0
        · subst h0
          have : c.toNat ≤ 1 := by omega
          have h3 : c.toNat % 128 ≤ 1 := by omega
          have := Nat.mul_le_mul_right (128 ^ (9 - 0)) h3
          omega
        · have hp : 128 ^ (9 - g) ≤ 128 ^ 8 := Nat.pow_le_pow_right (by omega) (by omega)
          have h3 : c.toNat % 128 ≤ 127 := by omega
          have := Nat.mul_le_mul h3 hp
          omega
      · cases g with
        | zero => simp [numP] at h
        | succ g =>
          have hm : c.toNat % 128 ≤ 127 := by omega
          have h3 := Nat.mul_le_mul_right (128 ^ (9 - (g + 1))) hm
          have := numP_lt g _ r u l2 (by omega) (by rw [show 9 - g = 9 - (g + 1) + 1 from by omega, Nat.pow_succ]; omega) h
          exact ⟨this.1, by simp; omega⟩
theorem numP_lt' {l : List UInt8} {u : Nat} {l2 : List UInt8} (h : numP 10 0 l = some (u, l2)) : u < 18446744073709551616 ∧ l2.length < l.length := numP_lt 9 0 l u l2 (by omega) (by simp) h

def VPost (rb B : Nat) (w : World) (r : Option (V × List UInt8)) (e : Ending) (w' : World) : Prop :=
  match r with
  | some (v, l') => ∃ A cap, e = .returned (v.val A cap) ∧ RdV w' (fun b => w.heap.size ≤ b ∧ b < w'.heap.size) v A cap ∧ Rdr w' rb B l' ∧ w.grownBy w' (some rb)
  | none => e = .panicked boom ∧ w.grownBy w' (some rb)
def LPost (rb B : Nat) (w : World) (r : Option (List V × List UInt8)) (e : Ending) (w' : World) : Prop :=
  match r with
  | some (vs, l') => ∃ A cap, e = .returned (.slice A vs.length cap) ∧ Sl w' (fun b => w.heap.size ≤ b ∧ b < w'.heap.size) (F.ofList vs) A cap ∧ Rdr w' rb B l' ∧ w.grownBy w' (some rb)
  | none => e = .panicked boom ∧ w.grownBy w' (some rb)

theorem Rdr.lt {w : World} {rb B : Nat} {l : List UInt8} (h : Rdr w rb B l) : rb < w.heap.size := by
  obtain ⟨_, _, h, _⟩ := h
  exact lt_of_block h
theorem Rdr.far {w w' : World} {rb B : Nat} {l : List UInt8} (h : Rdr w rb B l) (hs : ∀ k, k < w.heap.size → w'.heap[k]? = w.heap[k]?) (hB : B ≤ w.heap.size) : Rdr w' rb B l := by
  obtain ⟨A, cap, hc, hb⟩ := h
  exact ⟨A, cap, (hs _ (lt_of_block hc)).trans hc, hb.keep fun i hi => ⟨hi, hs i (by omega)⟩⟩
theorem grown_alloc (w : World) (o : Obj) (k : Option Nat) : w.grownBy (w.alloc o) k := World.grownBy_alloc w o k

theorem blk_set {w : World} {g : Nat} {t : TypeId} {cs : Array Value} {fr : Nat × Nat} (h : w.heap[g]? = some (.cells cs t fr)) (i : Nat) (u : Value) : (w.setCell ⟨g, i, none⟩ u).heap[g]? = some (.cells (cs.setIfInBounds i u) t fr) := by
  simp [World.setCell, Array.getElem?_modify, h]
theorem Rdr.set {w : World} {rb B : Nat} {l : List UInt8} (h : Rdr w rb B l) {p : Addr} (hp : p.block ≠ rb) (hB : B ≤ p.block) (u : Value) : Rdr (w.setCell p u) rb B l := by
  obtain ⟨A, cap, hc, hb⟩ := h
  exact ⟨A, cap, (Below.heap_setCell _ _ _ _ (Ne.symm hp)).trans hc, hb.keep fun i hi => ⟨hi, Below.heap_setCell _ _ _ _ (by omega)⟩⟩
theorem grown_set {a w : World} {k : Option Nat} (h : a.grownBy w k) {p : Addr} (hp : a.heap.size ≤ p.block) (u : Value) : a.grownBy (w.setCell p u) k :=
  ⟨h.os, h.tape, h.output, by simpa [World.setCell] using h.size, fun i hi hne => (Below.heap_setCell _ _ _ _ (by omega)).trans (h.block i hi hne)⟩
theorem cells_frozen {w : World} {g : Nat} {t : TypeId} {cs : Array Value} (h : w.heap[g]? = some (.cells cs t (0, 0))) (i : Nat) : w.frozen? ⟨g, i, none⟩ = false := by simp [World.frozen?, h]

abbrev zero4 : Array Value := #[.int .i64 0, .int .i64 0, .string ⟨#[]⟩, .slice none 0 0]

/-- the reader's first step: the kind -/
theorem value_head (rb B : Nat) (c : UInt8) (r : List UInt8) (w w1 : World) (hB : B ≤ rb) (hlt : rb < w.heap.size) (hr1 : Rdr w1 rb B r) (hg1 : (w.alloc (.cells zero4 24)).grownBy w1 (some rb)) :
    w1.heap[w.heap.size]? = some (.cells zero4 24 (0, 0)) ∧ Rdr (w1.setCell ⟨w.heap.size, 0, none⟩ (.int .i64 c.toNat)) rb B r ∧ (w1.setCell ⟨w.heap.size, 0, none⟩ (.int .i64 c.toNat)).heap[w.heap.size]? = some (.cells (zero4.setIfInBounds 0 (.int .i64 c.toNat)) 24 (0, 0)) ∧
      w.grownBy (w1.setCell ⟨w.heap.size, 0, none⟩ (.int .i64 c.toNat)) (some rb) ∧ w.heap.size < (w1.setCell ⟨w.heap.size, 0, none⟩ (.int .i64 c.toNat)).heap.size := by
  have h0 : w1.heap[w.heap.size]? = some (.cells zero4 24 (0, 0)) := (hg1.block _ (by simp) (by intro e; injection e; omega)).trans (heap_alloc_new w _)
  exact ⟨h0, hr1.set (by show w.heap.size ≠ rb; omega) (by show B ≤ w.heap.size; omega) _, blk_set h0 0 _, grown_set (grown2 (grown_alloc w _ _) hg1) (Nat.le_refl _) _, by have := lt_of_block h0; simpa [World.setCell] using this⟩

theorem set5 {w w2 : World} {rb B : Nat} {l : List UInt8} (hr : Rdr w2 rb B l) (hg : w.grownBy w2 (some rb)) (hq : rb < w.heap.size) (hB : B ≤ rb) (a b c d e : Nat) (ua ub uc ud ue : Value) :
    Rdr (((((w2.setCell ⟨w.heap.size, a, none⟩ ua).setCell ⟨w.heap.size, b, none⟩ ub).setCell ⟨w.heap.size, c, none⟩ uc).setCell ⟨w.heap.size, d, none⟩ ud).setCell ⟨w.heap.size, e, none⟩ ue) rb B l ∧
    w.grownBy (((((w2.setCell ⟨w.heap.size, a, none⟩ ua).setCell ⟨w.heap.size, b, none⟩ ub).setCell ⟨w.heap.size, c, none⟩ uc).setCell ⟨w.heap.size, d, none⟩ ud).setCell ⟨w.heap.size, e, none⟩ ue) (some rb) := by
  have h1 : ∀ i, (⟨w.heap.size, i, none⟩ : Addr).block ≠ rb := fun i => by show w.heap.size ≠ rb; omega
  have h2 : ∀ i, B ≤ (⟨w.heap.size, i, none⟩ : Addr).block := fun i => by show B ≤ w.heap.size; omega
  exact ⟨((((hr.set (h1 _) (h2 _) _).set (h1 _) (h2 _) _).set (h1 _) (h2 _) _).set (h1 _) (h2 _) _).set (h1 _) (h2 _) _,
    grown_set (grown_set (grown_set (grown_set (grown_set hg (Nat.le_refl _) _) (Nat.le_refl _) _) (Nat.le_refl _) _) (Nat.le_refl _) _) (Nat.le_refl _) _⟩
theorem sgn_bd (u : Int) (h0 : 0 ≤ u) (h1 : u ≤ 18446744073709551615) : -9223372036854775808 ≤ sgn u ∧ sgn u ≤ 9223372036854775807 := by
  unfold sgn
  split <;> omega
theorem rdv_leaf {w : World} {S : Nat → Prop} {k n : Int} {s : ByteArray} (h : Fits k n s) : RdV w S ⟨k, n, s, .nil⟩ none 0 := ⟨h, Nat.le_refl _, Nat.zero_le _, fun h => absurd h (by simp [F.len])⟩

set_option maxRecDepth 100000 in
set_option maxHeartbeats 800000 in
theorem value_int (rb B : Nat) (c : UInt8) (r : List UInt8) (d : Nat) (ar : Int) (w : World) (hr : Rdr w rb B (c :: r)) (hB : B ≤ rb) (hc : c.toNat = 1) :
    Calls Try.prog 37 #[.pointer (some ⟨rb, 0, none⟩), .int .i64 ar] w (VPost rb B w (valP d (c :: r))) := by
  have hlt := hr.lt
  have hv : valP d (c :: r) = (match numP 10 0 r with | none => none | some (u, l1) => some (⟨1, sgn u, ⟨#[]⟩, .nil⟩, l1)) := by
    cases d <;> rw [valP, if_pos hc]
  rw [hv]
  clear hv
  have C := Lib.hid (digit_ok rb B c r (w.alloc (.cells zero4 24)) (hr.far (fun k hk => Below.heap_alloc _ _ _ hk) (by omega)) hB)
  rw [hc] at C
  have HC := Lib.hid hc
  clear hc hr
  rcases hn : numP 10 0 r with _ | ⟨u, l1⟩
  · have HN := Lib.hid hn
    dsimp only
    clear hn
    go_enter Try.func37, Try.ntmps37
    go_wp2_with fail
    refine C.out.mono ?_
    rintro e w1 ⟨rfl, hr1, hg1⟩
    obtain ⟨hb0, hr2, hb2, hg2, hz2⟩ := value_head rb B c r w w1 hB hlt hr1 hg1
    rw [HC.out] at hr2 hb2 hg2 hz2
    have c0 : w1.cell? ⟨w.heap.size, 0, none⟩ = some (.int .i64 0) := by rw [cell_of_row _ _ _ _ _ _ hb0]; rfl
    have f0 := cells_frozen hb0 0
    have HG2 := Lib.hid hg2
    have D := Lib.hid (numeral_bad rb B r _ hr2 hB HN.out)
    clear hr1 hg1 hb0 hr2 hb2 hg2
    go_wp2_with fail
    refine D.out.mono ?_
    rintro e w2 ⟨rfl, hg3⟩
    exact ⟨rfl, rfl, grown2 HG2.out hg3⟩
  · have HN := Lib.hid hn
    have hu := (numP_lt' hn).1
    have E := Lib.hid (fun ww => sgn_any (u : Int) ww (by omega) (by omega))
    dsimp only
    clear hn
    go_enter Try.func37, Try.ntmps37
    go_wp2_with fail
    refine C.out.mono ?_
    rintro e w1 ⟨rfl, hr1, hg1⟩
    obtain ⟨hb0, hr2, hb2, hg2, hz2⟩ := value_head rb B c r w w1 hB hlt hr1 hg1
    rw [HC.out] at hr2 hb2 hg2 hz2
    have c0 : w1.cell? ⟨w.heap.size, 0, none⟩ = some (.int .i64 0) := by rw [cell_of_row _ _ _ _ _ _ hb0]; rfl
    have f0 := cells_frozen hb0 0
    have HG2 := Lib.hid hg2
    have HB2 := Lib.hid hb2
    have D := Lib.hid (numeral_ok rb B r _ hr2 hB u l1 HN.out)
    clear hr1 hg1 hb0 hr2 hb2 hg2
    go_wp2_with fail
    refine D.out.mono ?_
    rintro e w2 ⟨rfl, hr3, hg3⟩
    have hb3 := (hg3.block w.heap.size hz2 (by intro e; injection e; omega)).trans HB2.out
    have HG4 := Lib.hid (grown2 HG2.out hg3)
    have HR3 := Lib.hid hr3
    go_wp2_with fail
    refine (E.out _).mono ?_
    rintro e w2' ⟨rfl, rfl⟩
    have k0 : w2.cell? ⟨w.heap.size, 0, none⟩ = some (.int .i64 1) := by rw [cell_of_row _ _ _ _ _ _ hb3]; rfl
    have k1 : w2.cell? ⟨w.heap.size, 1, none⟩ = some (.int .i64 0) := by rw [cell_of_row _ _ _ _ _ _ hb3]; rfl
    have k2 : w2.cell? ⟨w.heap.size, 2, none⟩ = some (.string ⟨#[]⟩) := by rw [cell_of_row _ _ _ _ _ _ hb3]; rfl
    have k3 : w2.cell? ⟨w.heap.size, 3, none⟩ = some (.slice none 0 0) := by rw [cell_of_row _ _ _ _ _ _ hb3]; rfl
    have g0 := cells_frozen hb3 0
    have g1 := cells_frozen hb3 1
    have g2 := cells_frozen hb3 2
    have g3 := cells_frozen hb3 3
    clear c0 f0 hb3 hr3 hg3 hz2
    go_wp2
    have hx := set5 HR3.out HG4.out hlt hB
    have hs := sgn_bd (u : Int) (by omega) (by omega)
    refine bodyPost_ret (v := .agg #[.int .i64 1, .int .i64 (sgn u), .string ⟨#[]⟩, .slice none 0 0]) (by simp [results, Try.results37, go_sem, k0, k1, k2, k3]) rfl ⟨none, 0, rfl, rdv_leaf ⟨by omega, by omega, hs.1, hs.2, Nat.zero_le _⟩, (hx _ _ _ _ _ _ _ _ _ _).1, (hx _ _ _ _ _ _ _ _ _ _).2⟩

set_option maxRecDepth 100000 in
set_option maxHeartbeats 800000 in
theorem value_text (rb B : Nat) (c : UInt8) (r : List UInt8) (d : Nat) (ar : Int) (w : World) (hr : Rdr w rb B (c :: r)) (hB : B ≤ rb) (hc : c.toNat = 2) :
    Calls Try.prog 37 #[.pointer (some ⟨rb, 0, none⟩), .int .i64 ar] w (VPost rb B w (valP d (c :: r))) := by
  have hlt := hr.lt
  have hv : valP d (c :: r) = (match numP 10 0 r with | none => none | some (u, l1) => if u ≤ l1.length then some (⟨2, 0, ⟨(l1.take u).toArray⟩, .nil⟩, l1.drop u) else none) := by
    cases d <;> rw [valP, if_neg (by omega), if_pos hc]
  rw [hv]
  clear hv
  have C := Lib.hid (digit_ok rb B c r (w.alloc (.cells zero4 24)) (hr.far (fun k hk => Below.heap_alloc _ _ _ hk) (by omega)) hB)
  rw [hc] at C
  have HC := Lib.hid hc
  clear hc hr
  rcases hn : numP 10 0 r with _ | ⟨u, l1⟩
  · have HN := Lib.hid hn
    dsimp only
    clear hn
    go_enter Try.func37, Try.ntmps37
    go_wp2_with fail
    refine C.out.mono ?_
    rintro e w1 ⟨rfl, hr1, hg1⟩
    obtain ⟨hb0, hr2, hb2, hg2, hz2⟩ := value_head rb B c r w w1 hB hlt hr1 hg1
    rw [HC.out] at hr2 hb2 hg2 hz2
    have c0 : w1.cell? ⟨w.heap.size, 0, none⟩ = some (.int .i64 0) := by rw [cell_of_row _ _ _ _ _ _ hb0]; rfl
    have f0 := cells_frozen hb0 0
    have HG2 := Lib.hid hg2
    have D := Lib.hid (numeral_bad rb B r _ hr2 hB HN.out)
    clear hr1 hg1 hb0 hr2 hb2 hg2
    go_wp2_with fail
    refine D.out.mono ?_
    rintro e w2 ⟨rfl, hg3⟩
    exact ⟨rfl, rfl, grown2 HG2.out hg3⟩
  · have HN := Lib.hid hn
    have hu := (numP_lt' hn).1
    dsimp only
    clear hn
    by_cases hle : u ≤ l1.length
    · rw [if_pos hle]
      go_enter Try.func37, Try.ntmps37
      go_wp2_with fail
      refine C.out.mono ?_
      rintro e w1 ⟨rfl, hr1, hg1⟩
      obtain ⟨hb0, hr2, hb2, hg2, hz2⟩ := value_head rb B c r w w1 hB hlt hr1 hg1
      rw [HC.out] at hr2 hb2 hg2 hz2
      have c0 : w1.cell? ⟨w.heap.size, 0, none⟩ = some (.int .i64 0) := by rw [cell_of_row _ _ _ _ _ _ hb0]; rfl
      have f0 := cells_frozen hb0 0
      have HG2 := Lib.hid hg2
      have HB2 := Lib.hid hb2
      have D := Lib.hid (numeral_ok rb B r _ hr2 hB u l1 HN.out)
      clear hr1 hg1 hb0 hr2 hb2 hg2
      go_wp2_with fail
      refine D.out.mono ?_
      rintro e w2 ⟨rfl, hr3, hg3⟩
      have hb3 := (hg3.block w.heap.size hz2 (by intro e; injection e; omega)).trans HB2.out
      have HG4 := Lib.hid (grown2 HG2.out hg3)
      have T := Lib.hid (take_ok rb B l1 u w2 hr3 hB hle)
      have hz3 := lt_of_block hb3
      go_wp2_with fail
      refine T.out.mono ?_
      rintro e w3 ⟨A, rfl, hby, hr4, hg5⟩
      have hb4 := (hg5.block w.heap.size hz3 (by intro e; injection e; omega)).trans hb3
      have HG5 := Lib.hid (grown2 HG4.out hg5)
      have HR4 := Lib.hid hr4
      have hby2 : Byt w3 (· < B) (l1.take u) A u := hby.keep fun i hi => ⟨hi, hg5.block i (by omega) (by intro e; injection e; omega)⟩
      have hlen : u = (l1.take u).length := by simp; omega
      have hmx := hby2.2.1
      have hconv := conv_str hby2 hlen
      have HL := Lib.hid hlen
      have k0 : w3.cell? ⟨w.heap.size, 0, none⟩ = some (.int .i64 2) := by rw [cell_of_row _ _ _ _ _ _ hb4]; rfl
      have k1 : w3.cell? ⟨w.heap.size, 1, none⟩ = some (.int .i64 0) := by rw [cell_of_row _ _ _ _ _ _ hb4]; rfl
      have k2 : w3.cell? ⟨w.heap.size, 2, none⟩ = some (.string ⟨#[]⟩) := by rw [cell_of_row _ _ _ _ _ _ hb4]; rfl
      have k3 : w3.cell? ⟨w.heap.size, 3, none⟩ = some (.slice none 0 0) := by rw [cell_of_row _ _ _ _ _ _ hb4]; rfl
      have g0 := cells_frozen hb4 0
      have g1 := cells_frozen hb4 1
      have g2 := cells_frozen hb4 2
      have g3 := cells_frozen hb4 3
      clear c0 f0 hb3 hr3 hg3 hz2 hb4 hr4 hg5 hby hby2 hlen
      generalize hS : ByteArray.mk (l1.take u).toArray = S at *
      have HS := Lib.hid hS
      clear hS
      go_wp2
      have hx := set5 HR4.out HG5.out hlt hB
      refine bodyPost_ret (v := .agg #[.int .i64 2, .int .i64 0, .string S, .slice none 0 0]) (by simp [results, Try.results37, go_sem, k0, k1, k2, k3]) rfl ⟨none, 0, rfl, rdv_leaf ⟨by omega, by omega, by omega, by omega, ?_⟩, (hx _ _ _ _ _ _ _ _ _ _).1, (hx _ _ _ _ _ _ _ _ _ _).2⟩
      rw [← HS.out]
      show (l1.take u).toArray.size ≤ maxLen
      rw [List.size_toArray, ← HL.out]
      exact hmx
    · rw [if_neg hle]
      go_enter Try.func37, Try.ntmps37
      go_wp2_with fail
      refine C.out.mono ?_
      rintro e w1 ⟨rfl, hr1, hg1⟩
      obtain ⟨hb0, hr2, hb2, hg2, hz2⟩ := value_head rb B c r w w1 hB hlt hr1 hg1
      rw [HC.out] at hr2 hb2 hg2 hz2
      have c0 : w1.cell? ⟨w.heap.size, 0, none⟩ = some (.int .i64 0) := by rw [cell_of_row _ _ _ _ _ _ hb0]; rfl
      have f0 := cells_frozen hb0 0
      have HG2 := Lib.hid hg2
      have D := Lib.hid (numeral_ok rb B r _ hr2 hB u l1 HN.out)
      clear hr1 hg1 hb0 hr2 hb2 hg2
      go_wp2_with fail
      refine D.out.mono ?_
      rintro e w2 ⟨rfl, hr3, hg3⟩
      have HG4 := Lib.hid (grown2 HG2.out hg3)
      have T := Lib.hid (take_bad rb B l1 u w2 hr3 (by omega) (by omega))
      clear hr3 hg3
      go_wp2_with fail
      refine T.out.mono ?_
      rintro e w3 ⟨rfl, rfl⟩
      exact ⟨rfl, rfl, HG4.out⟩

set_option maxRecDepth 100000 in
set_option maxHeartbeats 800000 in
theorem value_other (rb B : Nat) (c : UInt8) (r : List UInt8) (d : Nat) (ar : Int) (w : World) (hr : Rdr w rb B (c :: r)) (hB : B ≤ rb) (h1 : ¬ c.toNat = 1) (h2 : ¬ c.toNat = 2) (h3 : ¬ c.toNat = 3) :
    Calls Try.prog 37 #[.pointer (some ⟨rb, 0, none⟩), .int .i64 ar] w (VPost rb B w (valP d (c :: r))) := by
  have hlt := hr.lt
  have hv : valP d (c :: r) = none := by
    cases d <;> rw [valP, if_neg h1, if_neg h2, if_neg h3]
  rw [hv]
  clear hv
  have C := Lib.hid (digit_ok rb B c r (w.alloc (.cells zero4 24)) (hr.far (fun k hk => Below.heap_alloc _ _ _ hk) (by omega)) hB)
  clear hr
  have hc := c.toNat_lt
  have b1 : ((c.toNat : Int) == 1) = false := by rw [beq_eq_false_iff_ne]; omega
  have b2 : ((c.toNat : Int) == 2) = false := by rw [beq_eq_false_iff_ne]; omega
  have b3 : ((c.toNat : Int) == 3) = false := by rw [beq_eq_false_iff_ne]; omega
  clear h1 h2 h3
  go_enter Try.func37, Try.ntmps37
  go_wp2_with fail
  refine C.out.mono ?_
  rintro e w1 ⟨rfl, hr1, hg1⟩
  obtain ⟨hb0, hr2, hb2, hg2, hz2⟩ := value_head rb B c r w w1 hB hlt hr1 hg1
  have c0 : w1.cell? ⟨w.heap.size, 0, none⟩ = some (.int .i64 0) := by rw [cell_of_row _ _ _ _ _ _ hb0]; rfl
  have f0 := cells_frozen hb0 0
  have HG2 := Lib.hid hg2
  clear hr1 hg1 hb0 hr2 hb2 hg2
  go_wp2_with (go_at_call 38; refine (fail_all _ _).mono ?_; rintro e w'' ⟨rfl, rfl⟩)
  exact ⟨rfl, rfl, HG2.out⟩

set_option maxRecDepth 100000 in
set_option maxHeartbeats 800000 in
theorem value_none (rb B : Nat) (d : Nat) (ar : Int) (w : World) (hr : Rdr w rb B []) (hB : B ≤ rb) :
    Calls Try.prog 37 #[.pointer (some ⟨rb, 0, none⟩), .int .i64 ar] w (VPost rb B w (valP d [])) := by
  have hlt := hr.lt
  have hv : valP d [] = none := by cases d <;> rw [valP]
  rw [hv]
  clear hv
  have C := Lib.hid (digit_bad rb B (w.alloc (.cells zero4 24)) (hr.far (fun k hk => Below.heap_alloc _ _ _ hk) (by omega)))
  clear hr
  go_enter Try.func37, Try.ntmps37
  go_wp2_with fail
  refine C.out.mono ?_
  rintro e w1 ⟨rfl, rfl⟩
  exact ⟨rfl, rfl, grown_alloc _ _ _⟩
end Go.Proofs.Ytomiacedailmaaa
