/- Several texts joined: parts HA HB HC. -/
import Derived.Test.YteicbdjennjcdaaDoorRows
import Derived.WalkKit
import Derived.WalkSpells
import Derived.WalkLawsBesides
import Derived.BigQuiet
import Derived.Lib.Hide
import Derived.Laws.CopyOwn
import Derived.StillTailTactics
namespace Go.Proofs.YteicbdjennjcdaaDoor
section
set_option maxRecDepth 100000
open Go.RowKit

theorem ret_int {k : IntKind} {a b : Int} (h : a = b) : Ending.returned (.int k a) = .returned (.int k b) := by rw [h]
theorem ret_bool {a b : Bool} (h : a = b) : Ending.returned (.bool a) = .returned (.bool b) := by rw [h]

/-- a word as the model's number -/
def I (x : UInt32) : Int := (x.toNat : Int)
theorem I_nat (x : UInt32) : I x = (x.toNat : Int) := rfl
theorem I_lt (x : UInt32) : x.toNat < 4294967296 := x.toNat_lt
theorem I_nonneg (x : UInt32) : 0 ≤ I x := Int.natCast_nonneg _
theorem I_le (x : UInt32) : I x < 4294967296 := by have := I_lt x; unfold I; omega
theorem I_inj {x y : UInt32} (h : I x = I y) : x = y := UInt32.toNat_inj.1 (by unfold I at h; omega)

theorem I_add (x y : UInt32) : IntKind.u32.wrap (I x + I y) = I (x + y) := by
  rw [IntKind.wrap_u32']; unfold I; rw [UInt32.toNat_add]; omega
theorem I_xor (x y : UInt32) : bits .xor .u32 (I x) (I y) = I (x ^^^ y) := by
  unfold I; rw [u32_xor_nat _ _ (I_lt x) (I_lt y), UInt32.toNat_xor]
theorem I_and (x y : UInt32) : bits .and .u32 (I x) (I y) = I (x &&& y) := by
  unfold I; rw [u32_and_nat _ _ (I_lt x) (I_lt y), UInt32.toNat_and]
theorem I_or (x y : UInt32) : bits .or .u32 (I x) (I y) = I (x ||| y) := by
  unfold I; rw [u32_or_nat _ _ (I_lt x) (I_lt y), UInt32.toNat_or]
theorem I_not (x : UInt32) : bits .xor .u32 IntKind.u32.max (I x) = I (~~~x) := by
  have e : IntKind.u32.max = ((4294967295 : Nat) : Int) := by decide
  unfold I
  rw [e, u32_xor_nat _ _ (by omega) (I_lt x)]
  have : (~~~x).toNat = 4294967295 ^^^ x.toNat := by
    have h : ~~~x = 4294967295 ^^^ x := by
      apply UInt32.toBitVec_inj.1
      simp only [UInt32.toBitVec_not, UInt32.toBitVec_xor]
      rw [← BitVec.allOnes_xor]
      rfl
    rw [h, UInt32.toNat_xor]
    rfl
  rw [this]

/-- x shifted to the right -/
theorem I_shr (x : UInt32) (n : Nat) (h : n < 32) : I x / 2 ^ n = I (x >>> (UInt32.ofNat n)) := by
  unfold I
  rw [UInt32.toNat_shiftRight, Nat.shiftRight_eq_div_pow]
  have : (UInt32.ofNat n).toNat % 32 = n := by
    rw [UInt32.toNat_ofNat', Nat.mod_eq_of_lt (by omega : n < 2 ^ 32), Nat.mod_eq_of_lt h]
  rw [this]
  norm_cast
theorem I_shl (x : UInt32) (n : Nat) (h : n < 32) : I x * 2 ^ n % 4294967296 = I (x <<< (UInt32.ofNat n)) := by
  unfold I
  rw [UInt32.toNat_shiftLeft, Nat.shiftLeft_eq]
  have : (UInt32.ofNat n).toNat % 32 = n := by
    rw [UInt32.toNat_ofNat', Nat.mod_eq_of_lt (by omega : n < 2 ^ 32), Nat.mod_eq_of_lt h]
  rw [this]
  have e : (2 : Nat) ^ 32 = 4294967296 := by decide
  rw [e, Int.natCast_emod, Int.natCast_mul, Int.natCast_pow]
  rfl

/-- rotated to the right -/
def rr (n : Nat) (x : UInt32) : UInt32 := (x <<< UInt32.ofNat (32 - n)) ||| (x >>> UInt32.ofNat n)

theorem neg_and (n : Nat) (h0 : 0 < n) (h1 : n < 32) : bits .and .u64 (IntKind.u64.wrap (-(n : Int))) 31 = 32 - n := by
  rw [IntKind.wrap_u64, u64_and _ _ (by omega) (by omega) (by omega) (by omega)]
  have e : ((-(n : Int)) % 18446744073709551616).toNat = 18446744073709551616 - n := by omega
  show ((((-(n : Int)) % 18446744073709551616).toNat &&& 31 : Nat) : Int) = _
  rw [e, nat_mask5]
  omega

set_option maxHeartbeats 400000 in
theorem rotl_all (x : UInt32) (n : Nat) (w : World) (h0 : 0 < n) (h1 : n < 32) :
    Calls Tryd.prog 117 #[.int .u32 (I x), .int .i64 (-(n : Int))] w fun e w' => e = .returned (.int .u32 (I (rr n x))) ∧ w = w' := by
  have e1 := neg_and n h0 h1
  have h2 : (0 : Int) ≤ 32 - n := by omega
  have e2 : IntKind.u64.wrap (32 - (32 - (n : Int))) = n := by rw [IntKind.wrap_u64]; omega
  have h3 : (0 : Int) ≤ n := by omega
  go_enter Tryd.func117, Tryd.ntmps117
  go_wp2
  go_ret
  exact ⟨ret_int (by rw [I_shl x _ (by omega), I_shr x _ h1, I_or]; rfl), rfl⟩

set_option maxHeartbeats 400000 in
theorem ror_all (x : UInt32) (n : Nat) (w : World) (h0 : 0 < n) (h1 : n < 32) :
    Calls Tryd.prog 111 #[.int .u32 (I x), .int .i64 n] w fun e w' => e = .returned (.int .u32 (I (rr n x))) ∧ w' = w := by
  have e1 : wrap64 (-(n : Int)) = -n := by unfold wrap64; omega
  go_enter Tryd.func111, Tryd.ntmps111
  go_wp2_with fail
  refine (rotl_all x n w h0 h1).mono ?_
  rintro e w' ⟨rfl, rfl⟩
  go_wp2_with fail
  go_ret
  exact ⟨rfl, rfl⟩

theorem rr_swap (n : Nat) (x : UInt32) : (x >>> UInt32.ofNat n) ||| (x <<< UInt32.ofNat (32 - n)) = rr n x := by
  unfold rr; exact UInt32.or_comm _ _

/-- nothing but draws -/
def Dr (w w' : World) : Prop := ∃ m, w' = w.drewN m

set_option maxHeartbeats 400000 in
theorem rror_all (x : UInt32) (n : Nat) (w : World) (h0 : 0 < n) (h1 : n < 32) :
    Calls Tryd.prog 113 #[.int .u32 (I x), .int .i64 n] w fun e w' => e = .returned (.int .u32 (I (rr n x))) ∧ ∃ m, w' = w.drewN m := by
  have e1 : wrap64 (32 - (n : Int)) = 32 - n := by unfold wrap64; omega
  have h2 : (0 : Int) ≤ 32 - n := by omega
  have h3 : (0 : Int) ≤ n := by omega
  go_enter Tryd.func113, Tryd.ntmps113
  go_wp2_with fail
  go_quiet (fail)
  go_wp2_with fail
  go_ret
  exact ⟨ret_int (by rw [I_shl x _ (by omega), I_shr x _ h1, I_or, rr_swap]), _, rfl⟩

/-- the word of four bytes -/
def wd (a b c d : UInt8) : UInt32 := (((a.toUInt32 <<< 24) ||| (b.toUInt32 <<< 16)) ||| (c.toUInt32 <<< 8)) ||| d.toUInt32

/-- bytes as cells -/
def U (l : List UInt8) : List Value := l.map fun b => Value.int .u8 b.toNat
/-- words as cells -/
def R32 (l : List UInt32) : List Value := l.map fun x => Value.int .u32 (I x)
theorem R32_len (l : List UInt32) : (R32 l).length = l.length := by simp [R32]
theorem R32_get (l : List UInt32) (i : Nat) (x : UInt32) (h : l[i]? = some x) : (R32 l)[i]? = some (.int .u32 (I x)) := by simp [R32, h]

theorem I_u8 (a : UInt8) : (a.toNat : Int) % 4294967296 = I a.toUInt32 := by
  have := a.toNat_lt
  unfold I; rw [UInt8.toNat_toUInt32]; omega

theorem I_wd (a b c d : UInt8) : bits .or .u32 (bits .or .u32 (bits .or .u32 ((a.toNat : Int) % 4294967296 * 16777216 % 4294967296) ((b.toNat : Int) % 4294967296 * 65536 % 4294967296)) ((c.toNat : Int) % 4294967296 * 256 % 4294967296)) ((d.toNat : Int) % 4294967296) = I (wd a b c d) := by
  have e1 := I_shl a.toUInt32 24 (by omega)
  have e2 := I_shl b.toUInt32 16 (by omega)
  have e3 := I_shl c.toUInt32 8 (by omega)
  rw [I_u8, I_u8, I_u8, I_u8]
  rw [show (2 : Int) ^ 24 = 16777216 by decide] at e1
  rw [show (2 : Int) ^ 16 = 65536 by decide] at e2
  rw [show (2 : Int) ^ 8 = 256 by decide] at e3
  rw [e1, e2, e3, I_or, I_or, I_or]
  rfl

set_option maxHeartbeats 400000 in
theorem word_all (a b c d : UInt8) (g o len cap : Nat) (w : World) (hl : 4 ≤ len)
    (c0 : w.cell? ⟨g, o, none⟩ = some (.int .u8 a.toNat)) (c1 : w.cell? ⟨g, o + 1, none⟩ = some (.int .u8 b.toNat)) (c2 : w.cell? ⟨g, o + 2, none⟩ = some (.int .u8 c.toNat)) (c3 : w.cell? ⟨g, o + 3, none⟩ = some (.int .u8 d.toNat)) :
    Calls Tryd.prog 116 #[.slice (some ⟨g, o, none⟩) len cap] w fun e w' => e = .returned (.int .u32 (I (wd a b c d))) ∧ ∃ m, w' = w.drewN m := by
  go_enter Tryd.func116, Tryd.ntmps116
  go_wp2_with fail
  go_quiet (fail)
  go_wp2_with fail
  go_ret
  exact ⟨ret_int (I_wd a b c d), _, rfl⟩

set_option maxHeartbeats 400000 in
theorem rword_all (a b c d : UInt8) (g o len cap : Nat) (w : World) (hl : 4 ≤ len)
    (c0 : w.cell? ⟨g, o, none⟩ = some (.int .u8 a.toNat)) (c1 : w.cell? ⟨g, o + 1, none⟩ = some (.int .u8 b.toNat)) (c2 : w.cell? ⟨g, o + 2, none⟩ = some (.int .u8 c.toNat)) (c3 : w.cell? ⟨g, o + 3, none⟩ = some (.int .u8 d.toNat)) :
    Calls Tryd.prog 112 #[.slice (some ⟨g, o, none⟩) len cap] w fun e w' => e = .returned (.int .u32 (I (wd a b c d))) ∧ ∃ m, w' = w.drewN m := by
  go_enter Tryd.func112, Tryd.ntmps112
  go_wp2_with fail
  go_quiet (fail)
  go_wp2_with fail
  go_ret
  exact ⟨ret_int (I_wd a b c d), _, rfl⟩
end
section
set_option maxRecDepth 100000
open Go.RowKit

theorem U_length (l : List UInt8) : (U l).length = l.length := by simp [U]
theorem U_append (l m : List UInt8) : U (l ++ m) = U l ++ U m := by simp [U]
theorem U_get (l : List UInt8) (i : Nat) : (U l)[i]? = (l[i]?).map fun b => Value.int .u8 b.toNat := by simp [U]

/-- a slice of bytes that reads as l; its cells are in blocks of S -/
def Byt (w : World) (S : Nat → Prop) (l : List UInt8) (A : Option Addr) (cap : Nat) : Prop :=
  l.length ≤ cap ∧ cap ≤ maxLen ∧ (A = none → cap = 0) ∧ (0 < l.length → ∃ b o, A = some ⟨b, o, none⟩ ∧ S b ∧ ∀ i u, (U l)[i]? = some u → w.cell? ⟨b, o + i, none⟩ = some u)
theorem Byt.keep {w w' : World} {S S' : Nat → Prop} {l : List UInt8} {A : Option Addr} {cap : Nat} (h : Byt w S l A cap) (hs : ∀ i, S i → S' i ∧ w'.heap[i]? = w.heap[i]?) : Byt w' S' l A cap := by
  refine ⟨h.1, h.2.1, h.2.2.1, fun hp => ?_⟩
  obtain ⟨b, o, e, hS, hc⟩ := h.2.2.2 hp
  exact ⟨b, o, e, (hs b hS).1, fun i u hu => (World.cell?_of_block (hs b hS).2).trans (hc i u hu)⟩
theorem Byt.drop {w : World} {S : Nat → Prop} {l : List UInt8} {b o cap : Nat} (h : Byt w S l (some ⟨b, o, none⟩) cap) (n : Nat) : Byt w S (l.drop n) (some ⟨b, o + n, none⟩) (cap - n) := by
  refine ⟨by rw [List.length_drop]; have := h.1; omega, by have := h.2.1; omega, (fun e => by cases e), fun hp => ?_⟩
  rw [List.length_drop] at hp
  obtain ⟨b', o', e, hS, hc⟩ := h.2.2.2 (by omega)
  injection e with e
  injection e with e1 e2
  subst e1 e2
  refine ⟨b, o + n, rfl, hS, fun i u hu => ?_⟩
  rw [Nat.add_assoc]
  refine hc (n + i) u ?_
  rw [U, List.getElem?_map] at hu ⊢
  rw [List.getElem?_drop] at hu
  exact hu

theorem below_drewN {B : Nat} {a w : World} (h : Below B a w) (n : Nat) : Below B a (w.drewN n) := ⟨h.os, h.tape, h.output, h.size, h.block⟩
/-- byte i -/
def by_ (l : List UInt8) (i : Nat) : UInt8 := l.getD i 0
theorem by_cell {w : World} {S : Nat → Prop} {l : List UInt8} {b o cap : Nat} (h : Byt w S l (some ⟨b, o, none⟩) cap) (i : Nat) (hi : i < l.length) : w.cell? ⟨b, o + i, none⟩ = some (.int .u8 ((by_ l i).toNat : Int)) := by
  obtain ⟨b', o', e, hS, hc⟩ := h.2.2.2 (by omega)
  injection e with e
  injection e with e1 e2
  subst e1 e2
  refine hc i _ ?_
  rw [U_get, List.getElem?_eq_getElem hi, by_, List.getD_eq_getElem?_getD, List.getElem?_eq_getElem hi]
  rfl
/-- word t of a block -/
def wAt (l : List UInt8) (t : Nat) : UInt32 := wd (by_ l (4 * t)) (by_ l (4 * t + 1)) (by_ l (4 * t + 2)) (by_ l (4 * t + 3))
/-- the first n words -/
def wds (l : List UInt8) (n : Nat) : List UInt32 := (List.range n).map (wAt l)
theorem wds_len (l : List UInt8) (n : Nat) : (wds l n).length = n := by simp [wds]
theorem wds_succ (l : List UInt8) (n : Nat) : wds l (n + 1) = wds l n ++ [wAt l n] := by simp [wds, List.range_succ]

/-- a row that is being filled: what is there, then zeros -/
def fl (n : Nat) (l : List UInt32) : List UInt32 := l ++ List.replicate (n - l.length) 0
theorem fl_set (n : Nat) (l : List UInt32) (x : UInt32) (h : l.length < n) : (fl n l).set l.length x = fl n (l ++ [x]) := by
  unfold fl
  rw [List.set_append_right _ _ (Nat.le_refl _), Nat.sub_self, List.length_append, List.length_singleton, show n - l.length = (n - (l.length + 1)) + 1 from by omega, List.replicate_succ, List.set_cons_zero, List.append_assoc]
  rfl
theorem fl_len (n : Nat) (l : List UInt32) (h : l.length ≤ n) : (fl n l).length = n := by
  unfold fl; rw [List.length_append, List.length_replicate]; omega
theorem fl_full (n : Nat) (l : List UInt32) (h : l.length = n) : fl n l = l := by
  unfold fl; rw [h, Nat.sub_self]; simp
theorem fl_get (n : Nat) (l : List UInt32) (i : Nat) (h : i < l.length) : (fl n l)[i]? = some (l.getD i 0) := by
  unfold fl
  rw [List.getElem?_append_left h, List.getD_eq_getElem?_getD, List.getElem?_eq_getElem h]
  rfl
theorem fl_next (n : Nat) (l : List UInt32) (h : l.length < n) : (fl n l)[l.length]? = some 0 := by
  unfold fl
  rw [List.getElem?_append_right (Nat.le_refl _), Nat.sub_self, show n - l.length = (n - l.length - 1) + 1 from by omega, List.replicate_succ]
  rfl
theorem R32_set (l : List UInt32) (i : Nat) (x : UInt32) : (R32 l).set i (.int .u32 (I x)) = R32 (l.set i x) := by simp [R32, List.map_set]

/-- a row of words at block b -/
def Row (w : World) (b : Nat) (t : TypeId) (l : List UInt32) : Prop := w.heap[b]? = some (.cells (R32 l).toArray t (0, 0))
theorem Row.cell {w : World} {b : Nat} {t : TypeId} {l : List UInt32} (h : Row w b t l) {i : Nat} {x : UInt32} (hx : l[i]? = some x) : w.cell? ⟨b, i, none⟩ = some (.int .u32 (I x)) := by
  rw [cell_of_row w b i _ _ _ h]
  simp [R32, hx]
theorem Row.set {w : World} {b : Nat} {t : TypeId} {l : List UInt32} (h : Row w b t l) (i : Nat) (x : UInt32) : Row (w.setCell ⟨b, i, none⟩ (.int .u32 (I x))) b t (l.set i x) := by
  have h' : w.heap[b]? = some (.cells (R32 l).toArray t (0, 0)) := h
  rw [setCell_eq_setRow w b i _ t _ _ h']
  show (w.setRow b _).heap[b]? = _
  rw [setRow_heap w b _ _ t _ h']
  simp [← R32_set]
/-- the next word of a row that is being filled -/
theorem Row.next {w : World} {b n : Nat} {t : TypeId} {l : List UInt32} (h : Row w b t (fl n l)) (hn : l.length < n) (x : UInt32) : Row (w.setCell ⟨b, l.length, none⟩ (.int .u32 (I x))) b t (fl n (l ++ [x])) := by
  have := h.set l.length x
  rwa [fl_set n l x hn] at this
theorem Row.frozen {w : World} {b : Nat} {t : TypeId} {l : List UInt32} (h : Row w b t l) (i : Nat) : w.frozen? ⟨b, i, none⟩ = false := frozen_of_row w b i _ t h
theorem Row.lt {w : World} {b : Nat} {t : TypeId} {l : List UInt32} (h : Row w b t l) : b < w.heap.size := (Array.getElem?_eq_some_iff.1 h).1
theorem Row.keep {w w' : World} {b : Nat} {t : TypeId} {l : List UInt32} (h : Row w b t l) (hk : w'.heap[b]? = w.heap[b]?) : Row w' b t l := hk.trans h

theorem R32_one (l : List UInt32) : (R32 l).toArray.all (·.oneCell') = true := by
  rw [Array.all_eq_true_iff_forall_mem]
  intro v hv
  simp only [R32, List.mem_toArray, List.mem_map] at hv
  obtain ⟨x, _, rfl⟩ := hv
  rfl
theorem R32_size (l : List UInt32) : (R32 l).toArray.size = l.length := by simp [R32]
theorem Row.setRow {w : World} {b : Nat} {t : TypeId} {l : List UInt32} (h : Row w b t l) (m : List UInt32) : Row (w.setRow b (R32 m).toArray) b t m := setRow_heap w b _ _ t _ h

theorem sz16 : (Tryd.prog.info? 120).map (·.size) = some 16 := by kernel_rfl
theorem sz64 : (Tryd.prog.info? 123).map (·.size) = some 64 := by kernel_rfl
theorem sz8 : (Tryd.prog.info? 109).map (·.size) = some 8 := by kernel_rfl
theorem sz8' : (Tryd.prog.info? 108).map (·.size) = some 8 := by kernel_rfl

/-- load of a whole row -/
theorem load_R {ops : Array Oper} {rest : List Oper} {o : Oper} {a : Act} {w : World} {Q : Exit → Act → World → Prop} (hgd : o.guard = none) (ty : TypeId) (x : Operand) (ho : o.op = .load ty x)
    (g : Nat) (hx : a.eval x = .pointer (some ⟨g, 0, none⟩)) (t : TypeId) (l : List UInt32) (n m : Nat) (e : TypeId) (h : Row w g t l)
    (hu : Tryd.prog.underlying ty = some (.array n e)) (hi : (Tryd.prog.info? ty).map (·.size) = some m) (hl : l.length = m)
    (hK : wpList Tryd.prog ops Q rest (a.put o.dst (.agg (R32 l).toArray)) w) : wpList Tryd.prog ops Q (o :: rest) a w :=
  wpList_load_row hgd ty x ho g hx t _ (0, 0) _ h hu rfl (by rw [hi, R32_size, hl]) hK
/-- store of a whole row -/
theorem store_R {ops : Array Oper} {rest : List Oper} {o : Oper} {a : Act} {w : World} {Q : Exit → Act → World → Prop} (hgd : o.guard = none) (ty : TypeId) (x y : Operand) (ho : o.op = .store ty x y)
    (g : Nat) (l l' : List UInt32) (hx : a.eval x = .pointer (some ⟨g, 0, none⟩)) (hy : a.eval y = .agg (R32 l').toArray) (t : TypeId) (m : Nat) (h : Row w g t l)
    (hi : (Tryd.prog.info? ty).map (·.size) = some m) (hl : l'.length = m) (hl0 : l.length = m)
    (hK : wpList Tryd.prog ops Q rest (a.put o.dst undef) (w.setRow g (R32 l').toArray)) : wpList Tryd.prog ops Q (o :: rest) a w :=
  wpList_store_row hgd ty x y ho g _ hx hy t _ h (by rw [hi, R32_size, hl]) (by rw [R32_size, R32_size, hl, hl0]) (R32_one l') hK
/-- store of what stands there -/
theorem store_S {ops : Array Oper} {rest : List Oper} {o : Oper} {a : Act} {w : World} {Q : Exit → Act → World → Prop} (hgd : o.guard = none) (ty : TypeId) (x y : Operand) (ho : o.op = .store ty x y)
    (g : Nat) (l : List UInt32) (hx : a.eval x = .pointer (some ⟨g, 0, none⟩)) (hy : a.eval y = .agg (R32 l).toArray) (t : TypeId) (m : Nat) (h : Row w g t l)
    (hi : (Tryd.prog.info? ty).map (·.size) = some m) (hl : l.length = m)
    (hK : wpList Tryd.prog ops Q rest (a.put o.dst undef) w) : wpList Tryd.prog ops Q (o :: rest) a w :=
  store_R hgd ty x y ho g l l hx hy t m h hi hl hl (by rw [setRow_self w g _ t _ h]; exact hK)
/-- a result that is a row -/
theorem res_R {fn : Func} {p : Tmp} {ty : TypeId} (h : fn.results = #[.cell p ty]) (tmps : Array Value) (w : World) (g : Nat) (t : TypeId) (l : List UInt32) (n m : Nat) (e : TypeId)
    (hp : tmps.getD p undef = .pointer (some ⟨g, 0, none⟩)) (hg : Row w g t l) (hu : Tryd.prog.underlying ty = some (.array n e)) (hi : (Tryd.prog.info? ty).map (·.size) = some m) (hl : l.length = m) :
    (results fn tmps).run Tryd.prog w = .ok (.agg (R32 l).toArray) w :=
  results_cell_row h tmps w g t _ (0, 0) _ hp hg hu rfl (by rw [hi, R32_size, hl])

set_option maxRecDepth 100000 in
set_option maxHeartbeats 800000 in
theorem words_all (l : List UInt8) (g o cap : Nat) (w : World) (hl : 64 ≤ l.length) (hb : Byt w (· < w.heap.size) l (some ⟨g, o, none⟩) cap) :
    Calls Tryd.prog 109 #[.slice (some ⟨g, o, none⟩) l.length cap] w fun e w' => e = .returned (.agg (R32 (wds l 16)).toArray) ∧ Below w.heap.size w w' := by
  have HB := Lib.hid hb
  have hcap := hb.1
  have hz : Row (w.alloc (.cells (R32 (fl 16 (wds l 0))).toArray 120)) w.heap.size 120 (fl 16 (wds l 0)) := heap_alloc_new w _
  clear hb
  go_enter Tryd.func109, Tryd.ntmps109
  go_wp2_with fail
  go_loopw [4] (fun x wr => ∃ t : Nat, x = .int .i64 t ∧ t ≤ 16 ∧ Row wr w.heap.size 120 (fl 16 (wds l t)) ∧ Below w.heap.size w wr) (fun x _ => 16 - (intOf x).toNat)
  case atStart => exact ⟨0, rfl, by omega, hz, (Below.refl _ _).alloc (Nat.le_refl _) _⟩
  case round =>
    obtain ⟨t, rfl, ht, hrow, hbl⟩ := hrel
    by_cases hlt : t < 16
    · have hbw := HB.out.keep (S' := (· < w.heap.size)) fun i hi => ⟨hi, hbl.block i hi⟩
      have C := Lib.hid (word_all (by_ l (4 * t)) (by_ l (4 * t + 1)) (by_ l (4 * t + 2)) (by_ l (4 * t + 3)) g (o + 4 * t) (l.length - 4 * t) (cap - 4 * t) wr (by omega) (by_cell hbw _ (by omega)) (by_cell hbw (4 * t + 1) (by omega)) (by_cell hbw (4 * t + 2) (by omega)) (by_cell hbw (4 * t + 3) (by omega)))
      rw [show 4 * t = t * 4 from Nat.mul_comm _ _] at C
      have hcell : ∀ m, (wr.drewN m).cell? ⟨w.heap.size, t, none⟩ = some (.int .u32 (I 0)) := fun m => Row.cell (w := wr.drewN m) hrow (by have := fl_next 16 (wds l t) (by rw [wds_len]; exact hlt); rwa [wds_len] at this)
      have hnext : ∀ m, Row ((wr.drewN m).setCell ⟨w.heap.size, t, none⟩ (.int .u32 (I (wAt l t)))) w.heap.size 120 (fl 16 (wds l (t + 1))) := fun m => by
        have := Row.next (w := wr.drewN m) hrow (by rw [wds_len]; exact hlt) (wAt l t)
        rwa [wds_len, ← wds_succ] at this
      have HNEXT := Lib.hid hnext
      have hfz := hrow.frozen t
      have HBL := Lib.hid hbl
      clear hbw hrow hbl hnext hz
      go_wp2_with fail
      refine C.out.mono ?_
      rintro e w' ⟨rfl, m, rfl⟩
      have hcm := hcell m
      clear hcell C
      go_wp2_with fail
      go_roundw
      case rel =>
        refine ⟨t + 1, rfl, by omega, ?_, ?_⟩
        · have := HNEXT.out m
          unfold wAt at this
          rwa [show 4 * t = t * 4 from Nat.mul_comm _ _] at this
        · exact (below_drewN HBL.out m).setCell (Nat.le_refl _) _
      case measure => simp [intOf]; omega
    · obtain rfl : t = 16 := by omega
      have hfin : Row wr w.heap.size 120 (wds l 16) := by rw [fl_full _ _ (wds_len l 16)] at hrow; exact hrow
      have HBL := Lib.hid hbl
      clear hrow hbl hz
      go_wp2_with (first | (refine load_R rfl 120 (.tmp 2) rfl w.heap.size rfl 120 (wds l 16) _ _ _ hfin Tryd.underlying120 sz16 (wds_len l 16) ?_) | (refine store_S rfl 120 (.tmp 2) (.tmp 15) rfl w.heap.size (wds l 16) rfl rfl 120 _ hfin sz16 (wds_len l 16) ?_))
      exact bodyPost_ret (res_R rfl _ _ _ _ _ _ _ _ rfl hfin Tryd.underlying120 sz16 (wds_len l 16)) rfl ⟨rfl, HBL.out⟩
end
section
set_option maxRecDepth 100000
open Go.RowKit

def gw (l : List UInt32) (i : Nat) : UInt32 := l.getD i 0
def s0 (x : UInt32) : UInt32 := rr 7 x ^^^ rr 18 x ^^^ (x >>> 3)
def s1 (y : UInt32) : UInt32 := rr 17 y ^^^ rr 19 y ^^^ (y >>> 10)
/-- the next word, behind n + 16 words -/
def sx (l : List UInt32) (n : Nat) : UInt32 := gw l n + s0 (gw l (n + 1)) + gw l (n + 9) + s1 (gw l (n + 14))
def sch (first : List UInt32) : Nat → List UInt32
  | 0 => first
  | n + 1 => sch first n ++ [sx (sch first n) n]
theorem sch_len (first : List UInt32) (n : Nat) : (sch first n).length = first.length + n := by
  induction n with
  | zero => rfl
  | succ n ih => rw [sch, List.length_append, ih]; rfl

theorem I_d3 (x : UInt32) : I x / (8 : Int) = I (x >>> 3) := by
  exact I_shr x 3 (by omega)
theorem I_d10 (x : UInt32) : I x / (1024 : Int) = I (x >>> 10) := by
  exact I_shr x 10 (by omega)

theorem I_sum4 (a b c d : UInt32) : (I a + I b + I c + I d) % 4294967296 = I (a + b + c + d) := by
  unfold I; rw [UInt32.toNat_add, UInt32.toNat_add, UInt32.toNat_add]; omega
theorem I_sx (a x c y : UInt32) : (I a + bits .xor .u32 (bits .xor .u32 (I (rr 7 x)) (I (rr 18 x))) (I x / 8) + I c + bits .xor .u32 (bits .xor .u32 (I (rr 17 y)) (I (rr 19 y))) (I y / 1024)) % 4294967296 = I (a + s0 x + c + s1 y) := by
  rw [I_d3, I_d10, I_xor, I_xor, I_xor, I_xor, I_sum4]
  rfl

theorem Row.at_ {w : World} {b n : Nat} {t : TypeId} {l : List UInt32} (h : Row w b t (fl n l)) {i : Nat} (hi : i < l.length) : w.cell? ⟨b, i, none⟩ = some (.int .u32 (I (gw l i))) :=
  h.cell (fl_get n l i hi)

theorem fl_splice (l : List UInt32) (h : l.length = 16) : splice (R32 (fl 64 [])) 0 (R32 l) = R32 (fl 64 l) := by
  unfold splice fl R32
  simp [h]

set_option maxRecDepth 100000 in
set_option maxHeartbeats 1600000 in
theorem schedule_all (first : List UInt32) (w : World) (hf : first.length = 16) :
    Calls Tryd.prog 110 #[.agg (R32 first).toArray] w fun e w' => e = .returned (.agg (R32 (sch first 48)).toArray) ∧ Below w.heap.size w w' := by
  have hw1 : ∀ W1, (w.alloc (.cells (R32 first).toArray 120)).alloc (.cells (R32 (fl 64 [])).toArray 123) = W1 → Row W1 w.heap.size 120 first ∧ Row W1 (w.heap.size + 1) 123 (fl 64 []) ∧ Below w.heap.size w W1 ∧ W1.heap.size = w.heap.size + 2 := by
    rintro W1 rfl
    refine ⟨?_, ?_, ((Below.refl _ _).alloc (Nat.le_refl _) _).alloc (by simp) _, by simp⟩
    · exact (Below.heap_alloc _ _ _ (by simp)).trans (heap_alloc_new w _)
    · have := heap_alloc_new (w.alloc (.cells (R32 first).toArray 120)) (.cells (R32 (fl 64 [])).toArray 123)
      simp only [World.size_alloc] at this
      exact this
  have HW1 := Lib.hid hw1
  clear hw1
  go_enter Tryd.func110, Tryd.ntmps110
  go_wp2_with fail
  generalize hW1 : (w.alloc (Obj.cells (R32 first).toArray 120)).alloc _ = W1
  obtain ⟨hr0, hr1, hb1, hz1⟩ := HW1.out W1 hW1
  clear hW1 HW1
  have HB1 := Lib.hid hb1
  have HR0 := Lib.hid hr0
  have HR1 := Lib.hid hr1
  have hsrc : ∀ j v, (R32 first)[j]? = some v → W1.drew.cell? ((⟨w.heap.size, 0, none⟩ : Addr).add j) = some v := fun j v hj => by
    have hadd : (⟨w.heap.size, 0, none⟩ : Addr).add j = ⟨w.heap.size, j, none⟩ := by unfold Addr.add; split <;> simp_all
    have h0 : W1.drew.heap[w.heap.size]? = some (.cells (R32 first).toArray 120 (0, 0)) := hr0
    rw [hadd, cell_of_row W1.drew _ _ _ _ _ h0]
    simpa using hj
  have HSRC := Lib.hid hsrc
  have hdr : Below w.heap.size w W1.drew := hb1.drew
  have HDR := Lib.hid hdr
  clear hb1 hr0 hr1 hsrc hdr
  have hone : ∀ v ∈ R32 first, v.oneCell' = true := fun v hv => by
    simp only [R32, List.mem_map] at hv
    obtain ⟨x, _, rfl⟩ := hv
    rfl
  have HONE := Lib.hid hone
  have HLEN := Lib.hid (show (R32 first).length = Nat.min 16 64 by rw [R32_len, hf]; rfl)
  have HFIT := Lib.hid (show 0 + (R32 first).length ≤ (R32 (fl 64 [])).length by rw [R32_len, R32_len, hf, fl_len _ _ (by simp)]; omega)
  clear hone
  go_region_law
    (refine step_copy_splice rfl (.tmp 6) (.tmp 7) 128 128 rfl 107 Tryd.underlying128 (by kernel_rfl) _ _ _ _ _ _ rfl rfl (w.heap.size + 1) 0 (R32 (fl 64 [])) 123 HR1.out (R32 first) HLEN.out (fun _ => ⟨rfl, _, rfl, HSRC.out⟩) HFIT.out HONE.out w.heap.size w HDR.out (by omega) ?_; intro w4 hg4 hb4; have HB4 := Lib.hid hb4; clear hb4)
  have hr4 : Row w4 (w.heap.size + 1) 123 (fl 64 first) := by
    have := hg4.out
    rw [fl_splice first hf] at this
    exact this
  have hz4 : w.heap.size + 2 ≤ w4.heap.size := hr4.lt
  have HR4 := Lib.hid hr4
  clear hg4 hr4
  go_wp2_with fail
  go_loopw [3] (fun x wr => ∃ n : Nat, x = .int .i64 ((n : Int) + 16) ∧ n ≤ 48 ∧ Row wr (w.heap.size + 1) 123 (fl 64 (sch first n)) ∧ Below w.heap.size w wr) (fun x _ => 64 - (intOf x).toNat)
  case atStart => exact ⟨0, rfl, by omega, HR4.out, HB4.out⟩
  case round =>
    obtain ⟨n, rfl, hn, hrow, hbl⟩ := hrel
    have hsl : (sch first n).length = n + 16 := by rw [sch_len, hf]; omega
    by_cases hlt : n < 48
    · have c1 := hrow.at_ (i := n + 1) (by omega)
      have c14 := hrow.at_ (i := n + 14) (by omega)
      have c0 := hrow.at_ (i := n) (by omega)
      have c9 := hrow.at_ (i := n + 9) (by omega)
      have HROW := Lib.hid hrow
      have HBL := Lib.hid hbl
      have HSL := Lib.hid hsl
      clear hrow hbl hsl
      go_wp2_with fail
      go_quiet (fail)
      obtain ⟨W5, hW5⟩ : ∃ W5, W5 = wr.drewN nq := ⟨_, rfl⟩
      rw [← hW5]
      have r5 : Row W5 (w.heap.size + 1) 123 (fl 64 (sch first n)) := by rw [hW5]; exact HROW.out
      have b5 : Below w.heap.size w W5 := by rw [hW5]; exact below_drewN HBL.out _
      clear c0 c1 c9 c14 hW5
      have c0 := r5.at_ (i := n) (by rw [HSL.out]; omega)
      have c9 := r5.at_ (i := n + 9) (by rw [HSL.out]; omega)
      have hnx := fl_next 64 (sch first n) (by rw [HSL.out]; omega)
      rw [HSL.out] at hnx
      have ca := r5.cell hnx
      have fa := r5.frozen (n + 16)
      have R5 := Lib.hid r5
      have B5 := Lib.hid b5
      clear r5 b5 hnx
      have e1 : IntKind.i64.wrap (n : Int) = n := IntWalk.i64_in _ (by omega)
      have e2 : IntKind.i64.wrap ((n : Int) + 9) = n + 9 := IntWalk.i64_in _ (by omega)
      have e3 : IntKind.i64.wrap ((n : Int) + 16 - 7) = n + 9 := by rw [show (n : Int) + 16 - 7 = n + 9 by omega]; exact e2
      have b1 : (n : Int) < 64 := by omega
      have b2 : (n : Int) + 9 < 64 := by omega
      have b3 : (n : Int) + 16 < 64 := by omega
      have b4 : (0 : Int) ≤ (n : Int) + 9 := by omega
      have b5 : (0 : Int) ≤ (n : Int) + 16 := by omega
      have t9 : ((n : Int) + 9).toNat = n + 9 := by omega
      have t16 : ((n : Int) + 16).toNat = n + 16 := by omega
      go_wp2_with fail
      go_still_tail 29, (by kernel_rfl)
      still_call (ror_all _ 7 _ (by omega) (by omega))
      repeat still_step
      still_call (ror_all _ 18 _ (by omega) (by omega))
      repeat still_step
      still_call (ror_all _ 17 _ (by omega) (by omega))
      repeat still_step
      still_call (ror_all _ 19 _ (by omega) (by omega))
      repeat still_step
      refine wpStill_nil ?_
      change wpList _ _ _ _ _ W5.drew
      go_wp2_with fail
      go_roundw
      case rel =>
        refine ⟨n + 1, rfl, by omega, ?_, ?_⟩
        · have h := Row.next (w := W5.drew) R5.out (by rw [HSL.out]; omega) (sx (sch first n) n)
          rw [HSL.out] at h
          rw [I_sx]
          exact h
        · exact (B5.out.setCell (by show w.heap.size ≤ w.heap.size + 1; omega) _).drew
      case measure => simp [intOf]; omega
    · obtain rfl : n = 48 := by omega
      have hfin : Row wr (w.heap.size + 1) 123 (sch first 48) := by rw [fl_full _ _ hsl] at hrow; exact hrow
      have HBL := Lib.hid hbl
      have HSL := Lib.hid hsl
      clear hrow hbl hsl
      go_wp2_with (first | (refine load_R rfl 123 (.tmp 2) rfl (w.heap.size + 1) rfl 123 (sch first 48) _ _ _ hfin Tryd.underlying123 sz64 HSL.out ?_) | (refine store_S rfl 123 (.tmp 2) (.tmp 50) rfl (w.heap.size + 1) (sch first 48) rfl rfl 123 _ hfin sz64 HSL.out ?_))
      exact bodyPost_ret (res_R rfl _ _ _ _ _ _ _ _ rfl hfin Tryd.underlying123 sz64 HSL.out) rfl ⟨rfl, HBL.out⟩
end
end Go.Proofs.YteicbdjennjcdaaDoor
