/- Several texts joined: parts HE HF HG HH HI HK XA XH. -/
import Derived.Test.YteicbdjennjcdaaDoorW02
import Derived.Test.YteicbdjennjcdaaDoorW01
import Derived.Laws.AppendOwnNone
import Derived.Lib.ConvBytes
import Derived.ArgAppend
import Derived.Shelf.Small.Bits
import Derived.Shelf.Strconv.Itoa0
import Derived.Lib.Hide
import Derived.Deep.RegionLaw
import Derived.Deep.MidRow
import Derived.DeepKeys
import Derived.Maps.AppendAt
import Derived.Great.BuildSlice
import Derived.Laws.MakeOwn
import Derived.Deep.RegionHeld3
import Derived.Shelf.Abstract
namespace Go.Proofs.YteicbdjennjcdaaDoor
section
set_option maxRecDepth 100000
open Go.RowKit

/-- the state behind n blocks of l -/
def foldb (s : S8) (l : List UInt8) : Nat → S8
  | 0 => s
  | n + 1 => comp (foldb s l n) (wds (l.drop (n * 64)) 16)

abbrev give (sb : Nat) : Value := .func (.func 100) #[.pointer (some ⟨sb, 0, none⟩)] #[]

theorem enter_absorb (args : Array Value) (w : World) : (callFunc 100 args).run Tryd.prog w = .ok (.enter 100 args) w := by
  first | rfl | kernel_rfl | simp [go_sem]

theorem below_grownBy {w w' w'' : World} {sb : Nat} (h : w.grownBy w' (some sb)) (hb : Below w'.heap.size w' w'') : w.grownBy w'' (some sb) :=
  ⟨hb.os.trans h.os, hb.tape.trans h.tape, hb.output.trans h.output, Nat.le_trans h.size hb.size, fun k hk hne => (hb.block k (Nat.lt_of_lt_of_le hk h.size)).trans (h.block k hk hne)⟩
theorem grownBy_trans {w w' w'' : World} {sb : Nat} (h : w.grownBy w' (some sb)) (g : w'.grownBy w'' (some sb)) : w.grownBy w'' (some sb) :=
  ⟨g.os.trans h.os, g.tape.trans h.tape, g.output.trans h.output, Nat.le_trans h.size g.size, fun k hk hne => (g.block k (Nat.lt_of_lt_of_le hk h.size) hne).trans (h.block k hk hne)⟩
theorem grownBy_refl (w : World) (sb : Nat) : w.grownBy w (some sb) := ⟨rfl, rfl, rfl, Nat.le_refl _, fun _ _ _ => rfl⟩

set_option maxRecDepth 100000 in
set_option maxHeartbeats 1600000 in
theorem each_all (s : S8) (l : List UInt8) (A : Option Addr) (cap sb m : Nat) (w : World) (hm : l.length = m * 64) (hl : Byt w (fun i => i < w.heap.size ∧ i ≠ sb) l A cap) (hk : KR w Kt) (hs : Row w sb 109 s.l) (h0 : sb ≠ 0) :
    Calls Tryd.prog 99 #[.slice A l.length cap, give sb] w fun e w' => e = .returned (.tuple #[]) ∧ Row w' sb 109 (foldb s l m).l ∧ w.grownBy w' (some sb) := by
  have hlt := hs.lt
  have hlt0 := hk.lt
  have hcap := hl.1
  have hcm : cap ≤ 9223372036854775807 := hl.2.1
  have HK := Lib.hid hk
  have HS := Lib.hid hs
  have HL := Lib.hid hl
  have HM := Lib.hid hm
  clear hk hs hl hm
  go_enter Tryd.func99, Tryd.ntmps99
  go_wp2_with fail
  go_loopw [4] (fun x wr => ∃ n k : Nat, k = n * 64 ∧ x = .int .i64 k ∧ n ≤ m ∧ Row wr sb 109 (foldb s l n).l ∧ w.grownBy wr (some sb)) (fun x _ => l.length - (intOf x).toNat)
  case atStart => exact ⟨0, 0, rfl, rfl, by omega, HS.out, grownBy_refl _ _⟩
  case round =>
    obtain ⟨n, k, hkn, rfl, hn, hrow, hg⟩ := hrel
    have hln := HM.out
    have HKN := Lib.hid hkn
    have HROW := Lib.hid hrow
    have HG := Lib.hid hg
    by_cases hlt : n < m
    · have hkl : k + 64 ≤ l.length := by omega
      obtain ⟨g, o, rfl, hS, _⟩ := HL.out.2.2.2 (by omega)
      have hby : Byt wr (· < wr.heap.size) (l.drop k) (some ⟨g, o + k, none⟩) (cap - k) :=
        (HL.out.keep (S' := (· < wr.heap.size)) fun i hi => ⟨by have := hg.size; omega, hg.block i hi.1 (by intro e; injection e with e; omega)⟩).drop k
      have C := Lib.hid (words_all (l.drop k) g (o + k) (cap - k) wr (by rw [List.length_drop]; omega) hby)
      rw [List.length_drop] at C
      clear hby hrow hg hln hkn hS
      go_wp2_with fail
      refine C.out.mono ?_
      rintro e w1 ⟨rfl, hb⟩
      have hg1 := below_grownBy HG.out hb
      have hk1 : KR w1 Kt := HK.out.keep (hg1.block 0 hlt0 (by intro e; injection e with e; omega))
      have hs1 : Row w1 sb 109 (foldb s l n).l := HROW.out.keep (hb.block sb HROW.out.lt)
      have C2 := Lib.hid (absorb_all (foldb s l n) (wds (l.drop k) 16) sb w1 (wds_len _ _) hk1 hs1 h0)
      have HG1 := Lib.hid hg1
      clear hb hg1 hk1 hs1 C
      have hef := enter_absorb
      go_wp2_with fail
      refine C2.out.mono ?_
      rintro e w2 ⟨rfl, hs2, hg2⟩
      have HS2 := Lib.hid hs2
      have HG2 := Lib.hid (grownBy_trans HG1.out hg2)
      clear hs2 hg2 C2
      go_wp2_with fail
      go_roundw
      case rel =>
        exact ⟨n + 1, k + 64, by rw [HKN.out]; omega, rfl, by omega, by rw [foldb, ← HKN.out]; exact HS2.out, HG2.out⟩
      case measure => simp [intOf]; omega
    · obtain rfl : n = m := by omega
      have hkl : k = l.length := by omega
      clear hrow hg hln hkn
      have hf : ¬ (k : Int) < l.length := by omega
      clear hkl
      go_wp2_with fail
      go_end0
      exact ⟨rfl, HROW.out, HG.out⟩
end
section
set_option maxRecDepth 100000
open Go.RowKit

theorem U_one (l : List UInt8) : ∀ u ∈ U l, u.oneCell' = true := by
  intro u hu
  simp only [U, List.mem_map] at hu
  obtain ⟨b, _, rfl⟩ := hu
  rfl

/-- a slice of bytes of the call's own -/
def Own (w : World) (base : Nat) (v : Value) (l : List UInt8) : Prop := w.ownsRow base 5 1 v l.length (U l)
theorem info_u8 : (Tryd.prog.info? 5).map (fun i => (i.zero, i.size, i.bytes)) = some (some (.int .u8 0), 1, 1) := by kernel_rfl

theorem Own.base {w : World} {b b' : Nat} {v : Value} {l : List UInt8} (h : Own w b v l) (hb : b' ≤ b) : Own w b' v l := by
  refine ⟨h.1, ?_⟩
  rcases h.2 with h | ⟨g, cap, cur, e, hg, r⟩
  · exact .inl h
  · exact .inr ⟨g, cap, cur, e, by omega, r⟩
theorem Own.kept {w w' : World} {b : Nat} {v : Value} {l : List UInt8} (h : Own w b v l) (hk : ∀ g, v.ownBlock = some g → w'.heap[g]? = w.heap[g]?) : Own w' b v l := by
  refine ⟨h.1, ?_⟩
  rcases h.2 with h | ⟨g, cap, cur, e, hg, hh, r⟩
  · exact .inl h
  · exact .inr ⟨g, cap, cur, e, hg, by rw [hk g (by rw [e]; rfl)]; exact hh, r⟩
theorem Own.below {w w' : World} {b B : Nat} {v : Value} {l : List UInt8} (h : Own w b v l) (hb : Below B w w') (hB : w.heap.size ≤ B) : Own w' b v l :=
  h.kept fun g hg => hb.block g (by have := (World.ownsRow.lt h g hg).2; omega)
theorem own_one (w : World) (b : UInt8) (n : Int) (hn : n = b.toNat) : Own (w.alloc (.cells #[.int .u8 n] 5)) w.heap.size (.slice (some ⟨w.heap.size, 0, none⟩) 1 1) [b] := by
  subst hn
  exact ⟨by simp [U], .inr ⟨w.heap.size, 1, #[.int .u8 (b.toNat : Int)], rfl, Nat.le_refl _, heap_alloc_new w _, Nat.le_refl _, by simp [maxLen], rfl, rfl⟩⟩
theorem own_row (w : World) (c : Array Value) (n : Nat) (hn : c.size = n) (hm : n ≤ maxLen) : Own (w.alloc (.cells c 5)) w.heap.size (.slice (some ⟨w.heap.size, 0, none⟩) 0 n) [] :=
  ⟨by simp [U], .inr ⟨w.heap.size, n, c, rfl, Nat.le_refl _, heap_alloc_new w _, Nat.zero_le _, hm, by omega, by simp [U]⟩⟩
theorem Own.nil (w : World) (b : Nat) : Own w b (.slice none 0 0) [] := World.ownsRow_nil _ _ _ _
/-- an own slice of bytes, read -/
theorem Own.byt {w : World} {b : Nat} {v : Value} {l : List UInt8} (h : Own w b v l) : ∃ A cap, v = .slice A l.length cap ∧ Byt w (fun i => b ≤ i ∧ i < w.heap.size) l A cap := by
  have hcs : ∀ g, v.ownBlock = some g → ∀ j u, (U l)[j]? = some u → w.cell? ((⟨g, 0, none⟩ : Addr).add j) = some u := fun g hg => World.ownsRow.cells h hg
  rcases h.2 with ⟨rfl, h0⟩ | ⟨g, cap, cur, rfl, hb, hh, h1, h2, _⟩
  · exact ⟨none, 0, by rw [h0], by omega, Nat.zero_le _, fun _ => rfl, fun hp => by omega⟩
  · refine ⟨some ⟨g, 0, none⟩, cap, rfl, h1, h2, (fun e => by cases e), fun _ => ⟨g, 0, rfl, ⟨hb, (Array.getElem?_eq_some_iff.1 hh).1⟩, fun i u hu => ?_⟩⟩
    have := hcs g rfl i u hu
    rwa [Go.WideShapes.add_plain] at this
theorem Own.slice {w : World} {b : Nat} {v : Value} {l : List UInt8} (h : Own w b v l) : ∃ A cap, v = .slice A l.length cap := by
  obtain ⟨A, cap, e, _⟩ := h.byt
  exact ⟨A, cap, e⟩
theorem below_own {B b : Nat} {a w w' : World} {v : Value} {l : List UInt8} (h : Below B a w) (hg : w.grownBy w' v.ownBlock) (ho : Own w b v l) (hb : B ≤ b) (hs : B ≤ w.heap.size) : Below B a w' :=
  h.grown hg hs fun k hk => by have := (World.ownsRow.lt ho k hk).1; omega

/-- append of bytes onto an own slice of bytes -/
theorem app_byt {ops : Array Oper} {rest : List Oper} {o : Oper} {a : Act} {Q : Exit → Act → World → Prop} {w : World} (hgd : o.guard = none) (s x : Operand)
    (ho : o.op = .call { callee := .builtin .append, args := #[s, x], argTypes := #[62, 62] })
    (base : Nat) (v : Value) (S : Nat → Prop) (A : Option Addr) (cap : Nat) (l l2 : List UInt8) (hs : a.eval s = v) (hx : a.eval x = .slice A l2.length cap) (hown : Own w base v l) (hsrc : Byt w S l2 A cap)
    (hlen : l.length + l2.length ≤ 140737488355328) (hbase : base ≤ w.heap.size)
    (h : ∀ v' w', Own w' base v' (l ++ l2) → w.grownBy w' v.ownBlock → wpList Tryd.prog ops Q rest (a.put o.dst v') w') : wpList Tryd.prog ops Q (o :: rest) a w := by
  obtain ⟨i, hi, hz0, hz1, hz2⟩ := info_parts info_u8
  rcases A with _ | ad
  · obtain rfl := hsrc.2.2.1 rfl
    have h0 := hsrc.1
    obtain rfl : l2 = [] := List.eq_nil_of_length_eq_zero (by omega)
    refine wpList_append_own_none hgd s x 62 ho base 5 i 1 Tryd.underlying62 hi v l.length (U l) hs hown hx ?_
    exact h v w (by rw [List.append_nil]; exact hown) ⟨rfl, rfl, rfl, Nat.le_refl _, fun _ _ _ => rfl⟩
  · refine wpList_append_own _ hgd s x 62 ho base 5 i (.int .u8 0) 1 1 Tryd.underlying62 hi hz0 hz1 hz2 rfl (by omega) v l.length (U l) hs hown ad l2.length cap (U l2)
      hx (by rw [U_length, Nat.mul_one]) (fun j u hu => ?_) (U_one l2) (by simp only [maxLen]; omega) (by omega) hbase ?_
    · have hj : j < l2.length := by
        by_cases h : j < l2.length
        · exact h
        · rw [List.getElem?_eq_none (by rw [U_length]; omega)] at hu; cases hu
      obtain ⟨b, o, e, _, hc⟩ := hsrc.2.2.2 (by omega)
      injection e with e
      subst e
      have hadd : (⟨b, o, none⟩ : Addr).add j = ⟨b, o + j, none⟩ := Go.WideShapes.add_plain _ _ _
      rw [hadd]
      exact hc j u hu
    · intro v' w' h1 h2 _
      refine h v' w' ?_ h2
      unfold Own
      rw [List.length_append, U_append]
      exact h1

/-- how many zeros behind n bytes and the byte 80 -/
def kpad (n : Nat) : Nat := (119 - n % 64) % 64
theorem kpad_eq (n : Nat) : (n + 1 + kpad n) % 64 = 56 := by unfold kpad; omega
theorem kpad_lt (n k : Nat) (h : k < kpad n) : (n + 1 + k) % 64 ≠ 56 := by unfold kpad at h; omega
theorem kpad_bd (n : Nat) : kpad n < 64 := Nat.mod_lt _ (by omega)
/-- byte i of the number of bits -/
def cby (many i : Nat) : UInt8 := UInt8.ofNat (many * 8 % 18446744073709551616 / 2 ^ (56 - 8 * i))
def cbs (many n : Nat) : List UInt8 := (List.range n).map (cby many)
theorem cbs_succ (many n : Nat) : cbs many (n + 1) = cbs many n ++ [cby many n] := by simp [cbs, List.range_succ]
/-- what comes behind the whole blocks -/
def padend (rest : List UInt8) (many : Nat) : List UInt8 := rest ++ [0x80] ++ List.replicate (kpad rest.length) 0 ++ cbs many 8
theorem padend_len (rest : List UInt8) (many : Nat) : (padend rest many).length = rest.length + 1 + kpad rest.length + 8 := by simp [padend, cbs]; omega

theorem cby_eq (many j : Nat) : IntKind.u64.wrap ((many : Int) * 8) / 2 ^ (56 - 8 * j) % 256 = ((cby many j).toNat : Int) := by
  rw [IntKind.wrap_u64, cby, UInt8.toNat_ofNat', Int.natCast_emod, Int.natCast_ediv, Int.natCast_emod, Int.natCast_mul, Int.natCast_pow]
  rfl
def slen : Value → Nat
  | .slice _ n _ => n
  | _ => 0

theorem make0 {ops : Array Oper} {rest : List Oper} {o : Oper} {a : Act} {Q : Exit → Act → World → Prop} {w : World} (hgd : o.guard = none) (l c : Operand) (ho : o.op = Op.makeSlice 62 l c)
    (C : Int) (n : Nat) (hl : a.eval l = .int .i64 0) (hc : a.eval c = .int .i64 C) (hC : C = (n : Int)) (hn : n ≤ 140737488355328)
    (h : ∀ w', Own w' w.heap.size (.slice (some ⟨w.heap.size, 0, none⟩) 0 n) [] → Below w.heap.size w w' → wpList Tryd.prog ops Q rest (a.put o.dst (.slice (some ⟨w.heap.size, 0, none⟩) 0 n)) w') : wpList Tryd.prog ops Q (o :: rest) a w := by
  obtain ⟨i, hi, hz0, hz1, hz2⟩ := info_parts info_u8
  refine wpList_make_own w hgd l c 62 ho w.heap.size 5 i (.int .u8 0) 1 Tryd.underlying62 hi hz0 hz1 .i64 .i64 C n hl hc hC (by rw [hz2]; omega) (by simp only [maxLen]; omega) (Nat.le_refl _) ?_
  intro w' h1 h2
  exact h w' h1 ((Below.refl _ _).grown h2 (Nat.le_refl _) (fun k hk => by cases hk))
theorem byt_one (w : World) (b : UInt8) (n : Int) (hn : n = b.toNat) : Byt (w.alloc (.cells #[.int .u8 n] 5)) (· < w.heap.size + 1) [b] (some ⟨w.heap.size, 0, none⟩) 1 := by
  obtain ⟨A, cap, e, h⟩ := (own_one w b n hn).byt
  injection e with e1 e2 e3
  subst e1 e3
  exact h.keep fun i hi => ⟨by have := hi.2; simpa using this, rfl⟩

set_option maxRecDepth 100000 in
set_option maxHeartbeats 1600000 in
theorem ending_all (rest : List UInt8) (A : Option Addr) (cap many : Nat) (w : World) (hl : Byt w (· < w.heap.size) rest A cap) (hr : rest.length < 64) (hmany : many < 9223372036854775808) :
    Calls Tryd.prog 101 #[.slice A rest.length cap, .int .i64 many] w fun e w' => ∃ v, e = .returned v ∧ Own w' w.heap.size v (padend rest many) ∧ Below w.heap.size w w' := by
  have HL := Lib.hid hl
  clear hl
  go_enter Tryd.func101, Tryd.ntmps101
  go_wp2_with (first
    | (refine make0 rfl _ _ rfl 128 128 rfl rfl rfl (by omega) ?_; intro w1 ho1 hb1; have HO1 := Lib.hid ho1; have HB1 := Lib.hid hb1; have HS1 := Lib.hid (HL.out.keep (w' := w1) (S' := (· < w.heap.size)) fun i hi => ⟨hi, hb1.block i hi⟩); have hz1 := hb1.size; clear ho1 hb1)
    | (at_builtin; refine app_byt rfl (.tmp 8) (.tmp 9) rfl w.heap.size _ _ _ _ [] rest rfl rfl HO1.out HS1.out (by simp; omega) hz1 ?_; intro v2 w2 ho2 hg2; rw [List.nil_append] at ho2; obtain ⟨A2, c2, e2⟩ := ho2.slice; subst e2; have HO2 := Lib.hid (show Own (w2.alloc (.cells #[.int .u8 128] 5)) w.heap.size (.slice A2 rest.length c2) rest from World.ownsRow.alloc ho2 _); have HB2 := Lib.hid (below_own HB1.out hg2 HO1.out (Nat.le_refl _) hz1); have hz2 := HB2.out.size; clear ho2 hg2)
    | (at_builtin; refine app_byt rfl (.tmp 11) (.tmp 12) rfl w.heap.size _ _ _ _ rest [0x80] rfl rfl HO2.out (byt_one w2 0x80 128 rfl) (by simp; omega) (by simp; omega) ?_; intro v3 w3 ho3 hg3; obtain ⟨A3, c3, e3⟩ := ho3.slice; subst e3; have HO3 := Lib.hid ho3; have HB3 := Lib.hid (below_own (HB2.out.alloc hz2 _) hg3 HO2.out (Nat.le_refl _) (by simp; omega)); clear ho3 hg3))
  have hbd := kpad_bd rest.length
  go_loopw [4] (fun x wr => ∃ (k : Nat) (L : List UInt8) (A4 : Option Addr) (c4 : Nat), x = .slice A4 L.length c4 ∧ L.length = rest.length + 1 + k ∧ L = rest ++ [0x80] ++ List.replicate k 0 ∧ k ≤ kpad rest.length ∧ Own wr w.heap.size (.slice A4 L.length c4) L ∧ Below w.heap.size w wr) (fun x _ => 200 - slen x)
  case atStart => exact ⟨0, rest ++ [0x80], A3, c3, by simp, by simp, by simp, by omega, HO3.out, HB3.out⟩
  case round =>
    obtain ⟨k, L, A4, c4, rfl, hlen, hL, hk, ho, hb⟩ := hrel
    have HL4 := Lib.hid hL
    have HLEN := Lib.hid hlen
    have HO := Lib.hid ho
    have HB := Lib.hid hb
    have hz := hb.size
    by_cases hlt : k < kpad rest.length
    · have hne := kpad_lt _ _ hlt
      rw [← hlen] at hne
      have hne' : ((L.length : Int) % 64 != 56) = true := by
        have : ¬ ((L.length : Int) % 64 = 56) := by omega
        simpa using this
      have HOA := Lib.hid (show Own (wr.alloc (.cells #[.int .u8 0] 5)) w.heap.size (.slice A4 L.length c4) L from World.ownsRow.alloc ho _)
      have hbdl : L.length ≤ 150 := by omega
      clear ho hb hL hlen hne
      go_wp2_with (at_builtin; refine app_byt rfl (.tmp 18) (.tmp 19) rfl w.heap.size _ _ _ _ L [0] rfl rfl HOA.out (byt_one wr 0 0 rfl) (by simp; omega) (by simp; omega) ?_; intro v5 w5 ho5 hg5; obtain ⟨A5, c5, e5⟩ := ho5.slice; subst e5; have HO5 := Lib.hid ho5; have HB5 := Lib.hid (below_own (HB.out.alloc hz _) hg5 HOA.out (Nat.le_refl _) (by simp; omega)); clear ho5 hg5)
      go_roundw
      case rel =>
        refine ⟨k + 1, L ++ [0], A5, c5, by simp, by simp [HLEN.out]; omega, ?_, by omega, HO5.out, HB5.out⟩
        rw [HL4.out, List.replicate_succ', ← List.append_assoc]
      case measure => simp [slen]; omega
    · obtain rfl : k = kpad rest.length := by omega
      have he := kpad_eq rest.length
      rw [← hlen] at he
      have hne' : ((L.length : Int) % 64 != 56) = false := by
        have : ((L.length : Int) % 64 = 56) := by omega
        simp [this]
      have hbdl : L.length ≤ 150 := by omega
      clear ho hb hL hlen he
      go_wp2_with fail
      go_loopw [4, 24] (fun x i wr => ∃ (j : Nat) (M : List UInt8) (A6 : Option Addr) (c6 : Nat), x = .slice A6 M.length c6 ∧ i = .int .i64 j ∧ j ≤ 8 ∧ M.length = L.length + j ∧ M = L ++ cbs many j ∧ Own wr w.heap.size (.slice A6 M.length c6) M ∧ Below w.heap.size w wr) (fun _ i _ => 8 - (intOf i).toNat)
      case atStart => exact ⟨0, L, A4, c4, rfl, rfl, by omega, rfl, by simp [cbs], HO.out, HB.out⟩
      case round =>
        obtain ⟨j, M, A6, c6, rfl, rfl, hj, hlen, hM, ho, hb⟩ := hrel
        have HM := Lib.hid hM
        have HLEN6 := Lib.hid hlen
        have HO6 := Lib.hid ho
        have HB6 := Lib.hid hb
        have hz6 := hb.size
        have hbd6 : M.length ≤ 160 := by omega
        by_cases hlt : j < 8
        · have hsh : (0 : Int) ≤ 56 - 8 * j := by omega
          have hsw : wrap64 (8 * (j : Int)) = 8 * j := by unfold wrap64; omega
          have HOA := Lib.hid (show Own (wr.alloc (.cells #[.int .u8 (IntKind.u64.wrap ((many : Int) * 8) / 2 ^ (56 - 8 * j) % 256)] 5)) w.heap.size (.slice A6 M.length c6) M from World.ownsRow.alloc ho _)
          have HBO := Lib.hid (byt_one wr (cby many j) _ (cby_eq many j))
          clear ho hb hM hlen
          go_wp2_with (at_builtin; refine app_byt rfl (.tmp 27) (.tmp 34) rfl w.heap.size _ _ _ _ M [cby many j] rfl rfl HOA.out HBO.out (by simp; omega) (by simp; omega) ?_; intro v5 w5 ho5 hg5; obtain ⟨A5, c5, e5⟩ := ho5.slice; subst e5; have HO5 := Lib.hid ho5; have HB5 := Lib.hid (below_own (HB6.out.alloc hz6 _) hg5 HOA.out (Nat.le_refl _) (by simp; omega)); clear ho5 hg5)
          go_roundw
          case rel =>
            refine ⟨j + 1, M ++ [cby many j], A5, c5, by simp, rfl, by omega, by simp [HLEN6.out]; omega, ?_, HO5.out, HB5.out⟩
            rw [cbs_succ, HM.out, List.append_assoc]
          case measure => simp [intOf]; omega
        · obtain rfl : j = 8 := by omega
          clear ho hb hM hlen
          go_wp2_with fail
          go_ret
          refine ⟨_, rfl, ?_, HB6.out⟩
          have h := HO6.out
          rw [HM.out] at h
          rw [padend, ← HL4.out]
          rw [HM.out]
          exact h
end
section
set_option maxRecDepth 100000
open Go.RowKit

theorem U_set (l : List UInt8) (i : Nat) (x : UInt8) : (U l).set i (.int .u8 x.toNat) = U (l.set i x) := by simp [U, List.map_set]
/-- a row of bytes at block b -/
def RowB (w : World) (b : Nat) (t : TypeId) (l : List UInt8) : Prop := w.heap[b]? = some (.cells (U l).toArray t (0, 0))
theorem RowB.cell {w : World} {b : Nat} {t : TypeId} {l : List UInt8} (h : RowB w b t l) {i : Nat} {x : UInt8} (hx : l[i]? = some x) : w.cell? ⟨b, i, none⟩ = some (.int .u8 x.toNat) := by
  rw [cell_of_row w b i _ _ _ h]
  simp [U, hx]
theorem RowB.set {w : World} {b : Nat} {t : TypeId} {l : List UInt8} (h : RowB w b t l) (i : Nat) (x : UInt8) : RowB (w.setCell ⟨b, i, none⟩ (.int .u8 x.toNat)) b t (l.set i x) := by
  have h' : w.heap[b]? = some (.cells (U l).toArray t (0, 0)) := h
  rw [setCell_eq_setRow w b i _ t _ _ h']
  show (w.setRow b _).heap[b]? = _
  rw [setRow_heap w b _ _ t _ h']
  simp [← U_set]
theorem RowB.frozen {w : World} {b : Nat} {t : TypeId} {l : List UInt8} (h : RowB w b t l) (i : Nat) : w.frozen? ⟨b, i, none⟩ = false := frozen_of_row w b i _ t h
theorem RowB.lt {w : World} {b : Nat} {t : TypeId} {l : List UInt8} (h : RowB w b t l) : b < w.heap.size := (Array.getElem?_eq_some_iff.1 h).1
theorem RowB.keep {w w' : World} {b : Nat} {t : TypeId} {l : List UInt8} (h : RowB w b t l) (hk : w'.heap[b]? = w.heap[b]?) : RowB w' b t l := hk.trans h
theorem RowB.setRow {w : World} {b : Nat} {t : TypeId} {l : List UInt8} (h : RowB w b t l) (m : List UInt8) : RowB (w.setRow b (U m).toArray) b t m := setRow_heap w b _ _ t _ h
def flb (n : Nat) (l : List UInt8) : List UInt8 := l ++ List.replicate (n - l.length) 0
theorem flb_set (n : Nat) (l : List UInt8) (x : UInt8) (h : l.length < n) : (flb n l).set l.length x = flb n (l ++ [x]) := by
  unfold flb
  rw [List.set_append_right _ _ (Nat.le_refl _), Nat.sub_self, List.length_append, List.length_singleton, show n - l.length = (n - (l.length + 1)) + 1 from by omega, List.replicate_succ, List.set_cons_zero, List.append_assoc]
  rfl
theorem flb_full (n : Nat) (l : List UInt8) (h : l.length = n) : flb n l = l := by
  unfold flb; rw [h, Nat.sub_self]; simp
theorem flb_next (n : Nat) (l : List UInt8) (h : l.length < n) : (flb n l)[l.length]? = some 0 := by
  unfold flb
  rw [List.getElem?_append_right (Nat.le_refl _), Nat.sub_self, show n - l.length = (n - l.length - 1) + 1 from by omega, List.replicate_succ]
  rfl
theorem RowB.next {w : World} {b n : Nat} {t : TypeId} {l : List UInt8} (h : RowB w b t (flb n l)) (hn : l.length < n) (x : UInt8) : RowB (w.setCell ⟨b, l.length, none⟩ (.int .u8 x.toNat)) b t (flb n (l ++ [x])) := by
  have := h.set l.length x
  rwa [flb_set n l x hn] at this
theorem U_ones (l : List UInt8) : (U l).toArray.all (·.oneCell') = true := by
  rw [Array.all_eq_true_iff_forall_mem]
  intro v hv
  exact U_one l v (by simpa using hv)
theorem U_size (l : List UInt8) : (U l).toArray.size = l.length := by simp [U]
theorem sz32 : (Tryd.prog.info? 23).map (·.size) = some 32 := by kernel_rfl

theorem load_B {ops : Array Oper} {rest : List Oper} {o : Oper} {a : Act} {w : World} {Q : Exit → Act → World → Prop} (hgd : o.guard = none) (x : Operand) (ho : o.op = .load 23 x)
    (g : Nat) (hx : a.eval x = .pointer (some ⟨g, 0, none⟩)) (t : TypeId) (l : List UInt8) (h : RowB w g t l) (hl : l.length = 32)
    (hK : wpList Tryd.prog ops Q rest (a.put o.dst (.agg (U l).toArray)) w) : wpList Tryd.prog ops Q (o :: rest) a w :=
  wpList_load_row hgd 23 x ho g hx t _ (0, 0) _ h Tryd.underlying23 rfl (by rw [sz32, U_size, hl]) hK
theorem store_B {ops : Array Oper} {rest : List Oper} {o : Oper} {a : Act} {w : World} {Q : Exit → Act → World → Prop} (hgd : o.guard = none) (x y : Operand) (ho : o.op = .store 23 x y)
    (g : Nat) (l l' : List UInt8) (hx : a.eval x = .pointer (some ⟨g, 0, none⟩)) (hy : a.eval y = .agg (U l').toArray) (t : TypeId) (h : RowB w g t l) (hl : l'.length = 32) (hl0 : l.length = 32)
    (hK : wpList Tryd.prog ops Q rest (a.put o.dst undef) (w.setRow g (U l').toArray)) : wpList Tryd.prog ops Q (o :: rest) a w :=
  wpList_store_row hgd 23 x y ho g _ hx hy t _ h (by rw [sz32, U_size, hl]) (by rw [U_size, U_size, hl, hl0]) (U_ones l') hK
theorem store_BS {ops : Array Oper} {rest : List Oper} {o : Oper} {a : Act} {w : World} {Q : Exit → Act → World → Prop} (hgd : o.guard = none) (x y : Operand) (ho : o.op = .store 23 x y)
    (g : Nat) (l : List UInt8) (hx : a.eval x = .pointer (some ⟨g, 0, none⟩)) (hy : a.eval y = .agg (U l).toArray) (t : TypeId) (h : RowB w g t l) (hl : l.length = 32)
    (hK : wpList Tryd.prog ops Q rest (a.put o.dst undef) w) : wpList Tryd.prog ops Q (o :: rest) a w :=
  store_B hgd x y ho g l l hx hy t h hl hl (by rw [setRow_self w g _ t _ h]; exact hK)
theorem res_B {fn : Func} {p : Tmp} (h : fn.results = #[.cell p 23]) (tmps : Array Value) (w : World) (g : Nat) (t : TypeId) (l : List UInt8)
    (hp : tmps.getD p undef = .pointer (some ⟨g, 0, none⟩)) (hg : RowB w g t l) (hl : l.length = 32) :
    (results fn tmps).run Tryd.prog w = .ok (.agg (U l).toArray) w :=
  results_cell_row h tmps w g t _ (0, 0) _ hp hg Tryd.underlying23 rfl (by rw [sz32, U_size, hl])

/-- byte i of the words -/
def dby (l : List UInt32) (i : Nat) : UInt8 := UInt8.ofNat ((gw l (i / 4)).toNat / 2 ^ (24 - i % 4 * 8))
def dbs (l : List UInt32) (n : Nat) : List UInt8 := (List.range n).map (dby l)
theorem dby_eq (l : List UInt32) (t : Nat) : I (gw l (t / 4)) / 2 ^ (24 - t % 4 * 8) % 256 = ((dby l t).toNat : Int) := by
  unfold I
  rw [dby, UInt8.toNat_ofNat', Int.natCast_emod, Int.natCast_ediv, Int.natCast_pow]
  rfl
theorem dbs_len (l : List UInt32) (n : Nat) : (dbs l n).length = n := by simp [dbs]
theorem dbs_succ (l : List UInt32) (n : Nat) : dbs l (n + 1) = dbs l n ++ [dby l n] := by simp [dbs, List.range_succ]

set_option maxRecDepth 100000 in
set_option maxHeartbeats 1600000 in
theorem digest_all (s : S8) (sb : Nat) (w : World) (hs : Row w sb 109 s.l) :
    Calls Tryd.prog 102 #[.pointer (some ⟨sb, 0, none⟩)] w fun e w' => e = .returned (.agg (U (dbs s.l 32)).toArray) ∧ Below w.heap.size w w' := by
  have hlt := hs.lt
  have hz : RowB (w.alloc (.cells (U (flb 32 (dbs s.l 0))).toArray 23)) w.heap.size 23 (flb 32 (dbs s.l 0)) := heap_alloc_new w _
  have HS := Lib.hid hs
  clear hs
  have HZ := Lib.hid hz
  clear hz
  go_enter Tryd.func102, Tryd.ntmps102
  go_wp2_with fail
  go_loopw [4] (fun x wr => ∃ t : Nat, x = .int .i64 t ∧ t ≤ 32 ∧ RowB wr w.heap.size 23 (flb 32 (dbs s.l t)) ∧ Below w.heap.size w wr) (fun x _ => 32 - (intOf x).toNat)
  case atStart => exact ⟨0, rfl, by omega, HZ.out, (Below.refl _ _).alloc (Nat.le_refl _) _⟩
  case round =>
    obtain ⟨t, rfl, ht, hrow, hbl⟩ := hrel
    by_cases hlt : t < 32
    · have hc := (HS.out.keep (hbl.block sb ‹_›)).cell (gw_get s.l (t / 4) (by show t / 4 < 8; omega))
      have h0 := flb_next 32 (dbs s.l t) (by rw [dbs_len]; exact hlt)
      rw [dbs_len] at h0
      have hc2 := hrow.cell h0
      have hf2 := hrow.frozen t
      have HROW := Lib.hid hrow
      have HBL := Lib.hid hbl
      clear hrow hbl h0
      have b1 : (t : Int) < 32 := by omega
      go_wp2_with fail
      go_roundw
      case rel =>
        refine ⟨t + 1, rfl, by omega, ?_, HBL.out.setCell (Nat.le_refl _) _⟩
        have h := RowB.next HROW.out (by rw [dbs_len]; exact hlt) (dby s.l t)
        rw [dbs_len, ← dbs_succ] at h
        rw [dby_eq]
        exact h
      case measure => simp [intOf]; omega
    · obtain rfl : t = 32 := by omega
      have hfin : RowB wr w.heap.size 23 (dbs s.l 32) := by rw [flb_full _ _ (dbs_len _ 32)] at hrow; exact hrow
      have HBL := Lib.hid hbl
      clear hrow hbl
      go_wp2_with (first | (refine load_B rfl (.tmp 2) rfl w.heap.size rfl 23 (dbs s.l 32) hfin (dbs_len _ 32) ?_) | (refine store_BS rfl (.tmp 2) (.tmp 22) rfl w.heap.size (dbs s.l 32) rfl rfl 23 hfin (dbs_len _ 32) ?_))
      exact bodyPost_ret (res_B rfl _ _ _ _ _ rfl hfin (dbs_len _ 32)) rfl ⟨rfl, HBL.out⟩

/-- the first state -/
def iv : S8 := ⟨0x6a09e667, 0xbb67ae85, 0x3c6ef372, 0xa54ff53a, 0x510e527f, 0x9b05688c, 0x1f83d9ab, 0x5be0cd19⟩

set_option maxRecDepth 100000 in
set_option maxHeartbeats 1600000 in
theorem initial_all (w : World) : Calls Tryd.prog 98 #[] w fun e w' => e = .returned (.agg (R32 iv.l).toArray) ∧ Below w.heap.size w w' := by
  have hz : Row (w.alloc (.cells (R32 (fl 8 [])).toArray 109)) w.heap.size 109 (fl 8 []) := heap_alloc_new w _
  have hz2 := hz.setRow iv.l
  go_enter Tryd.func98, Tryd.ntmps98
  go_wp2_with (refine store_R rfl 109 (.tmp 0) (.tmp 1) rfl w.heap.size (fl 8 []) iv.l rfl rfl 109 8 hz sz8 rfl rfl ?_)
  exact bodyPost_ret (res_R rfl _ _ _ _ _ _ _ _ rfl hz2 Tryd.underlying109 sz8 rfl) rfl ⟨rfl, below_setRow ((Below.refl _ _).alloc (Nat.le_refl _) _) (Nat.le_refl _) _⟩
end
section
set_option maxRecDepth 100000
open Go.RowKit

/-- the hash -/
def tailOf (l : List UInt8) : List UInt8 := padend (l.drop (l.length / 64 * 64)) l.length
def sst (l : List UInt8) : S8 := foldb (foldb iv (l.take (l.length / 64 * 64)) (l.length / 64)) (tailOf l) ((tailOf l).length / 64)
def sha (l : List UInt8) : List UInt8 := dbs (sst l).l 32
theorem sha_len (l : List UInt8) : (sha l).length = 32 := dbs_len _ _
theorem tail_len (l : List UInt8) : (tailOf l).length = (tailOf l).length / 64 * 64 := by
  have h := kpad_eq (l.drop (l.length / 64 * 64)).length
  unfold tailOf
  rw [padend_len]
  omega

theorem Byt.take {w : World} {S : Nat → Prop} {l : List UInt8} {A : Option Addr} {cap : Nat} (h : Byt w S l A cap) (n : Nat) : Byt w S (l.take n) A cap := by
  refine ⟨Nat.le_trans (by rw [List.length_take]; omega) h.1, h.2.1, h.2.2.1, fun hp => ?_⟩
  rw [List.length_take] at hp
  obtain ⟨b, o, e, hS, hc⟩ := h.2.2.2 (by omega)
  refine ⟨b, o, e, hS, fun i u hu => hc i u ?_⟩
  have hi : i < (U (l.take n)).length := by
    by_cases h : i < (U (l.take n)).length
    · exact h
    · rw [List.getElem?_eq_none (by omega)] at hu; cases hu
  rw [U_length, List.length_take] at hi
  rw [U, List.getElem?_map] at hu ⊢
  rw [List.getElem?_take, if_pos (by omega)] at hu
  exact hu
theorem Byt.drop_any {w : World} {S : Nat → Prop} {l : List UInt8} {A : Option Addr} {cap : Nat} (h : Byt w S l A cap) (n : Nat) (hn : n ≤ l.length) : Byt w S (l.drop n) (Option.map (fun x => x.add n) A) (cap - n) := by
  refine ⟨by rw [List.length_drop]; have := h.1; omega, by have := h.2.1; omega, fun e => ?_, fun hp => ?_⟩
  · rcases A with _ | ad
    · have := h.2.2.1 rfl; omega
    · cases e
  · rw [List.length_drop] at hp
    obtain ⟨b, o, rfl, hS, hc⟩ := h.2.2.2 (by omega)
    obtain ⟨b', o', e, h2⟩ := (Byt.drop h n).2.2.2 (by rw [List.length_drop]; omega)
    injection e with e
    injection e with e1 e2
    subst e1 e2
    exact ⟨b, o + n, by simp [Go.WideShapes.add_plain], h2⟩
theorem Byt.drop_end {w : World} {S : Nat → Prop} {l : List UInt8} {A : Option Addr} {n : Nat} (h : Byt w S l A n) : Byt w S (l.drop n) A 0 := by
  have := h.1
  exact ⟨by rw [List.length_drop]; omega, Nat.zero_le _, fun _ => rfl, fun hp => by rw [List.length_drop] at hp; omega⟩
theorem below_of_grown {B sb : Nat} {w w2 w3 : World} (h : Below B w w2) (hg : w2.grownBy w3 (some sb)) (hB : B ≤ w2.heap.size) (hsb : B ≤ sb) : Below B w w3 :=
  h.grown hg hB fun k hk => by injection hk with hk; omega

set_option maxRecDepth 100000 in
set_option maxHeartbeats 1600000 in
theorem sum_all (l : List UInt8) (A : Option Addr) (cap : Nat) (w : World) (hl : Byt w (· < w.heap.size) l A cap) (hk : KR w Kt) :
    Calls Tryd.prog 76 #[.slice A l.length cap] w fun e w' => e = .returned (.agg (U (sha l)).toArray) ∧ Below w.heap.size w w' := by
  have HL := Lib.hid hl
  have HK := Lib.hid hk
  have hlt0 := hk.lt
  have hmx : l.length ≤ 9223372036854775807 := Nat.le_trans hl.1 hl.2.1
  have hcap := hl.1
  have hz : RowB (w.alloc (.cells (U (flb 32 [])).toArray 23)) w.heap.size 23 (flb 32 []) := heap_alloc_new w _
  have HZ := Lib.hid hz
  clear hl hk hz
  go_enter Tryd.func76, Tryd.ntmps76
  go_wp2_with fail
  refine (initial_all _).mono ?_
  rintro e w1 ⟨rfl, hb⟩
  have hb1 : Below w.heap.size w w1 := below_box hb
  have hz1 : w.heap.size < w1.heap.size := by have := hb.size; simp at this; omega
  have hd1 : RowB w1 w.heap.size 23 (flb 32 []) := HZ.out.keep (hb.block _ (by simp))
  have hs1 : Row (w1.alloc (.cells (R32 (fl 8 [])).toArray 109)) w1.heap.size 109 (fl 8 []) := heap_alloc_new w1 _
  have HB1 := Lib.hid hb1
  have HD1 := Lib.hid hd1
  clear hb hb1 hd1
  go_wp2_with (refine store_R rfl 109 (.tmp 3) (.tmp 5) rfl w1.heap.size (fl 8 []) iv.l rfl rfl 109 8 hs1 sz8 rfl rfl ?_)
  obtain ⟨W2, hW2⟩ : ∃ W2, W2 = (w1.alloc (.cells (R32 (fl 8 [])).toArray 109)).setRow w1.heap.size (R32 iv.l).toArray := ⟨_, rfl⟩
  have rs2 : Row W2 w1.heap.size 109 iv.l := by rw [hW2]; exact hs1.setRow _
  have hb12 : Below w1.heap.size w1 W2 := by
    rw [hW2]
    exact below_setRow ((Below.refl _ _).alloc (Nat.le_refl _) _) (Nat.le_refl _) _
  change Calls _ _ _ ((w1.alloc (.cells (R32 (fl 8 [])).toArray 109)).setRow w1.heap.size (R32 iv.l).toArray) _
  rw [← hW2]
  clear hW2 hs1
  have hb2 : Below w.heap.size w W2 := HB1.out.trans (hb12.mono (by omega))
  have hz2 : w1.heap.size < W2.heap.size := rs2.lt
  have HD2 := Lib.hid (HD1.out.keep (hb12.block _ (by omega)))
  have hlt : l.length / 64 * 64 ≤ l.length := by omega
  have C := Lib.hid (each_all iv (l.take (l.length / 64 * 64)) A cap w1.heap.size (l.length / 64) W2 (by rw [List.length_take]; omega)
    ((HL.out.take _).keep fun i hi => ⟨⟨by omega, by omega⟩, hb2.block i hi⟩) (HK.out.keep (hb2.block 0 hlt0)) rs2 (by omega))
  rw [List.length_take, Nat.min_eq_left hlt] at C
  have HB2 := Lib.hid hb2
  clear hb12 hb2 rs2
  refine C.out.mono ?_
  rintro e w3 ⟨rfl, hs3, hg3⟩
  have hb3 := below_of_grown HB2.out hg3 (by omega) (by omega)
  have hz3 := hg3.size
  have HD3 := Lib.hid (HD2.out.keep (hg3.block _ (by omega) (by intro e; injection e; omega)))
  have HS3 := Lib.hid hs3
  have HB3 := Lib.hid hb3
  have HLB := Lib.hid (HL.out.keep (w' := w3) (S' := (· < w.heap.size)) fun i hi => ⟨hi, hb3.block i hi⟩)
  clear hs3 hg3 hb3 C
  obtain ⟨rest, hrest⟩ : ∃ rest, rest = l.drop (l.length / 64 * 64) := ⟨_, rfl⟩
  have hrl : rest.length = l.length - l.length / 64 * 64 := by rw [hrest, List.length_drop]
  have hby1 : Byt w3 (· < w3.heap.size) rest (Option.map (fun x => x.add (l.length / 64 * 64)) A) (cap - l.length / 64 * 64) := by
    rw [hrest]; exact (HLB.out.keep fun i hi => ⟨by omega, rfl⟩).drop_any _ hlt
  have hby2 : cap = l.length / 64 * 64 → Byt w3 (· < w3.heap.size) rest A 0 := fun e => by
    have h := HLB.out
    rw [e] at h
    rw [hrest]; exact (h.keep fun i hi => ⟨by omega, rfl⟩).drop_end
  have CE1 := Lib.hid (ending_all rest _ _ l.length w3 hby1 (by omega) (by omega))
  have CE2 := Lib.hid (fun e => ending_all rest _ _ l.length w3 (hby2 e) (by omega) (by omega))
  rw [hrl] at CE1 CE2
  obtain ⟨P, hP⟩ : ∃ P, P = padend rest l.length := ⟨_, rfl⟩
  rw [← hP] at CE1 CE2
  have HPL := Lib.hid (show P.length = P.length / 64 * 64 by rw [hP, hrest]; exact tail_len l)
  have HSH := Lib.hid (show dbs (foldb (foldb iv (l.take (l.length / 64 * 64)) (l.length / 64)) P (P.length / 64)).l 32 = sha l by rw [hP, hrest]; rfl)
  obtain ⟨s3, hs3⟩ : ∃ s3, s3 = foldb iv (l.take (l.length / 64 * 64)) (l.length / 64) := ⟨_, rfl⟩
  rw [← hs3] at HSH HS3
  clear hrest hrl hby1 hby2 hP hs3
  go_wp2_with fail
  all_goals
    first | (with_reducible refine CE1.out.mono ?_) | (with_reducible refine (CE2.out (by omega)).mono ?_)
    rintro e w4 ⟨v, rfl, ho, hb⟩
    obtain ⟨A4, c4, rfl, hy⟩ := ho.byt
    have hz4 := hb.size
    have hb4 : Below w.heap.size w w4 := HB3.out.trans (hb.mono (by omega))
    have HD4 := Lib.hid (HD3.out.keep (hb.block _ (by omega)))
    have C5 := Lib.hid (each_all s3 P A4 c4 w1.heap.size (P.length / 64) w4 HPL.out (hy.keep fun i hi => ⟨⟨hi.2, by omega⟩, rfl⟩) (HK.out.keep (hb4.block 0 hlt0)) (HS3.out.keep (hb.block _ (by omega))) (by omega))
    have HB4 := Lib.hid hb4
    clear ho hb hy hb4
    go_wp2_with fail
    refine C5.out.mono ?_
    rintro e w5 ⟨rfl, hs5, hg5⟩
    have hz5 := hg5.size
    have HB5 := Lib.hid (below_of_grown HB4.out hg5 (by omega) (by omega))
    have HD5 := Lib.hid (HD4.out.keep (hg5.block _ (by omega) (by intro e; injection e; omega)))
    have C6 := Lib.hid (digest_all _ w1.heap.size w5 hs5)
    rw [HSH.out] at C6
    clear hs5 hg5 C5
    go_wp2_with fail
    refine C6.out.mono ?_
    rintro e w6 ⟨rfl, hb6⟩
    have hd6 := HD5.out.keep (hb6.block _ (by omega))
    have HB6 := Lib.hid (HB5.out.trans (hb6.mono (by omega)))
    have hr6 := hd6.setRow (sha l)
    clear hb6 C6
    go_wp2_with (refine store_B rfl (.tmp 2) (.tmp 23) rfl w.heap.size (flb 32 []) (sha l) rfl rfl 23 hd6 (sha_len l) (by simp [flb]) ?_)
    exact bodyPost_ret (res_B rfl _ _ _ _ _ rfl hr6 (sha_len l)) rfl ⟨rfl, below_setRow HB6.out (Nat.le_refl _) _⟩
end
section
set_option maxRecDepth 100000
open Go.RowKit

theorem byt_conv (w : World) (s : ByteArray) (hs : s.size ≤ maxLen) : Byt (Lib.bytesWorld w 5 s) (· < w.heap.size + 1) s.data.toList (some ⟨w.heap.size, 0, none⟩) (grownCap w s.size 0 5) := by
  have hl : s.data.toList.length = s.size := by simp
  refine ⟨by rw [hl]; exact grownCap_ge _ _ _ _, grownCap_le_maxLen _ _ _ _ hs, (fun e => by cases e), fun _ => ⟨w.heap.size, 0, rfl, Nat.lt_succ_self _, fun i u hu => ?_⟩⟩
  have hi : i < s.size := by
    by_cases h : i < s.size
    · exact h
    · rw [List.getElem?_eq_none (by rw [U_length, hl]; omega)] at hu; cases hu
  rw [Nat.zero_add, Lib.bytesWorld_cell _ _ _ _ hi, ← hu, U_get, List.getElem?_eq_getElem (by rw [hl]; exact hi)]
  simp [List.getD, hi]
theorem below_conv (w : World) (s : ByteArray) : Below w.heap.size w (Lib.bytesWorld w 5 s) := by
  refine ⟨rfl, rfl, rfl, by rw [Lib.bytesWorld_size]; omega, fun k hk => Lib.bytesWorld_at_old _ _ _ _ hk⟩

theorem RowB.byt {w : World} {b : Nat} {t : TypeId} {l : List UInt8} (h : RowB w b t l) (hm : l.length ≤ maxLen) : Byt w (fun i => i = b) l (some ⟨b, 0, none⟩) l.length :=
  ⟨Nat.le_refl _, hm, (fun e => by cases e), fun _ => ⟨b, 0, rfl, rfl, fun i u hu => by
    rw [Nat.zero_add, cell_of_row w b i _ _ _ h]
    simpa using hu⟩⟩

/-- append of bytes onto a whole array of bytes -/
theorem wp_app_row {o : Oper} {a : Act} {K : Act → World → Prop} {Q : Exit → Act → World → Prop} {w : World} (s x : Operand)
    (ho : o.op = .call { callee := .builtin .append, args := #[s, x], argTypes := #[62, 62] })
    (g n : Nat) (S : Nat → Prop) (A : Option Addr) (cap : Nat) (l l2 : List UInt8) (t : TypeId) (hs : a.eval s = .slice (some ⟨g, 0, none⟩) n n) (hn : n = l.length) (hx : a.eval x = .slice A l2.length cap) (hrow : RowB w g t l) (hsrc : Byt w S l2 A cap)
    (hlen : l.length + l2.length ≤ 140737488355328)
    (h : ∀ A' c' w', Byt w' (fun i => i = g ∨ (w.heap.size ≤ i ∧ i < w'.heap.size)) (l ++ l2) A' c' → Below w.heap.size w w' → K (a.put o.dst (.slice A' (l ++ l2).length c')) w') : o.wp Tryd.prog a w K Q := by
  obtain ⟨i, hi, hz0, hz1, hz2⟩ := info_parts info_u8
  subst hn
  by_cases h0 : l2 = []
  · subst h0
    have hrun : (Builtin.append_ #[62, 62] o.type #[.slice (some ⟨g, 0, none⟩) l.length l.length, .slice A 0 cap]).run Tryd.prog w = .ok (.slice (some ⟨g, 0, none⟩) l.length l.length) w := by
      rcases A with _ | ad <;> simp [Builtin.append_, run_underlying Tryd.underlying62, sizeOf, typeInfo, hi, Builtin.lenOf, Builtin.firstCells, storeCells, loadCells, loadCellsFrom]
    have hx' : a.eval x = .slice A 0 cap := hx
    unfold Oper.wp
    simp [execOp, ho, resolve, invoke, builtin, hs, hx', hrun, Result.andThen]
    have := h (some ⟨g, 0, none⟩) l.length w (by rw [List.append_nil]; exact (hrow.byt (by simp only [maxLen]; simp at hlen; omega)).keep fun i hi => ⟨.inl hi, rfl⟩) (Below.refl _ _)
    rw [List.append_nil] at this
    exact this
  · have hpos : 0 < l2.length := List.length_pos_iff.2 h0
    obtain ⟨b, ofs, rfl, hS, hc⟩ := hsrc.2.2.2 hpos
    obtain ⟨v', w', hrun, h1, h2⟩ := run_append_arg_grows (P := Tryd.prog) w 62 o.type 5 i (.int .u8 0) 1 1 Tryd.underlying62 hi hz0 hz1 hz2 rfl (by omega) ⟨g, 0, none⟩ l.length l.length (U l) (by rw [U_length, Nat.mul_one])
      (fun j u hu => by
        rw [Go.WideShapes.add_plain, Nat.zero_add, cell_of_row w g j _ _ _ hrow]
        simpa using hu)
      ⟨b, ofs, none⟩ l2.length cap (U l2) (by rw [U_length, Nat.mul_one]) (fun j u hu => by
        rw [Go.WideShapes.add_plain]
        exact hc j u hu) (by omega) (by simp only [maxLen]; omega) (by omega)
    have hown : Own w' w.heap.size v' (l ++ l2) := by
      unfold Own
      rw [List.length_append, U_append]
      exact h1
    obtain ⟨A', c', rfl, hy⟩ := hown.byt
    have := h A' c' w' (hy.keep fun i hi => ⟨.inr hi, rfl⟩) ((Below.refl _ _).grown h2 (Nat.le_refl _) (fun k hk => by cases hk))
    rw [List.length_append] at this hrun
    unfold Oper.wp
    simp [execOp, ho, resolve, invoke, builtin, hs, hx, hrun, Result.andThen]
    exact this
theorem app_row {ops : Array Oper} {rest : List Oper} {o : Oper} {a : Act} {Q : Exit → Act → World → Prop} {w : World} (hgd : o.guard = none) (s x : Operand)
    (ho : o.op = .call { callee := .builtin .append, args := #[s, x], argTypes := #[62, 62] })
    (g n : Nat) (S : Nat → Prop) (A : Option Addr) (cap : Nat) (l l2 : List UInt8) (t : TypeId) (hs : a.eval s = .slice (some ⟨g, 0, none⟩) n n) (hn : n = l.length) (hx : a.eval x = .slice A l2.length cap) (hrow : RowB w g t l) (hsrc : Byt w S l2 A cap)
    (hlen : l.length + l2.length ≤ 140737488355328)
    (h : ∀ A' c' w', Byt w' (fun i => i = g ∨ (w.heap.size ≤ i ∧ i < w'.heap.size)) (l ++ l2) A' c' → Below w.heap.size w w' → wpList Tryd.prog ops Q rest (a.put o.dst (.slice A' (l ++ l2).length c')) w') : wpList Tryd.prog ops Q (o :: rest) a w :=
  wpList_plain hgd fun _ hK => wp_app_row s x ho g n S A cap l l2 t hs hn hx hrow hsrc hlen fun A' c' w' h1 h2 => hK _ _ (h A' c' w' h1 h2)
theorem step_app_row {ops : Array Oper} {o : Oper} {a : Act} {K : Act → World → Prop} {Q : Exit → Act → World → Prop} {E : Prop} {w : World} (hgd : o.guard = none) (s x : Operand)
    (ho : o.op = .call { callee := .builtin .append, args := #[s, x], argTypes := #[62, 62] })
    (g n : Nat) (S : Nat → Prop) (A : Option Addr) (cap : Nat) (l l2 : List UInt8) (t : TypeId) (hs : a.eval s = .slice (some ⟨g, 0, none⟩) n n) (hn : n = l.length) (hx : a.eval x = .slice A l2.length cap) (hrow : RowB w g t l) (hsrc : Byt w S l2 A cap)
    (hlen : l.length + l2.length ≤ 140737488355328)
    (h : ∀ A' c' w', Byt w' (fun i => i = g ∨ (w.heap.size ≤ i ∧ i < w'.heap.size)) (l ++ l2) A' c' → Below w.heap.size w w' → K (a.put o.dst (.slice A' (l ++ l2).length c')) w') : if Region.wanted o (yielded ops a.tmps) = true then Oper.wp Tryd.prog o a w K Q else E := by
  have hw : Region.wanted o (yielded ops a.tmps) = true := by simp [Region.wanted, hgd]
  rw [if_pos hw]
  exact wp_app_row s x ho g n S A cap l l2 t hs hn hx hrow hsrc hlen h

/-- the hash under a tag -/
def tagd (t b : List UInt8) : List UInt8 := sha (sha t ++ b)
theorem tagd_len (t b : List UInt8) : (tagd t b).length = 32 := sha_len _

set_option maxRecDepth 100000 in
set_option maxHeartbeats 1600000 in
theorem tagged_all (s : ByteArray) (l : List UInt8) (A : Option Addr) (cap : Nat) (w : World) (hs : s.size ≤ 1000000) (hn : l.length ≤ 1000000) (hl : Byt w (· < w.heap.size) l A cap) (hk : KR w Kt) :
    Calls Tryd.prog 42 #[.string s, .slice A l.length cap] w fun e w' => e = .returned (.agg (U (tagd s.data.toList l)).toArray) ∧ Below w.heap.size w w' := by
  have HL := Lib.hid hl
  have HK := Lib.hid hk
  have hlt0 := hk.lt
  have hconv := fun (w : World) (s : ByteArray) => Lib.run_convert_string_bytes (P := Tryd.prog) w 9 62 5 s Tryd.underlying9 Tryd.underlying62 Tryd.underlying5
  have hz : RowB (w.alloc (.cells (U (flb 32 [])).toArray 23)) w.heap.size 23 (flb 32 []) := heap_alloc_new w _
  have HZ := Lib.hid hz
  clear hl hk hz
  go_enter Tryd.func42, Tryd.ntmps42
  go_wp2_with fail
  have hgen : ∀ W1, w.alloc (.cells (U (flb 32 [])).toArray 23) = W1 → RowB W1 w.heap.size 23 (flb 32 []) ∧ Below w.heap.size w W1 ∧ W1.heap.size = w.heap.size + 1 := by
    rintro W1 rfl
    exact ⟨HZ.out, (Below.refl _ _).alloc (Nat.le_refl _) _, by simp⟩
  generalize hW1 : w.alloc _ = W1
  obtain ⟨hd1, hb1, hz1⟩ := hgen W1 hW1
  clear hgen hW1
  have hsl : s.data.toList.length = s.size := by simp
  have hbc := below_conv W1 s
  have hzc := Lib.bytesWorld_size W1 5 s
  have C := sum_all s.data.toList _ _ (Lib.bytesWorld W1 5 s) ((byt_conv W1 s (by simp only [maxLen]; omega)).keep fun i hi => ⟨by rw [hzc]; exact hi, rfl⟩) (HK.out.keep ((hbc.block 0 (by omega)).trans (hb1.block 0 hlt0)))
  rw [hsl, hz1] at C
  refine C.mono ?_
  rintro e w2 ⟨rfl, hb⟩
  have hb12 : Below W1.heap.size W1 w2 := hbc.trans (hb.mono (by omega))
  have hz2 : w.heap.size + 2 ≤ w2.heap.size := by have := hb.size; omega
  have HB2 := Lib.hid (hb1.trans (hb12.mono (by omega)))
  have HD2 := Lib.hid (hd1.keep (hb12.block _ (by omega)))
  have hn1 : RowB (w2.alloc (.cells (U (flb 32 [])).toArray 23)) w2.heap.size 23 (flb 32 []) := heap_alloc_new w2 _
  have hn2 := hn1.setRow (sha s.data.toList)
  have hb23 : Below w2.heap.size w2 ((w2.alloc (.cells (U (flb 32 [])).toArray 23)).setRow w2.heap.size (U (sha s.data.toList)).toArray) := below_setRow ((Below.refl _ _).alloc (Nat.le_refl _) _) (Nat.le_refl _) _
  have HL2 := Lib.hid ((HL.out.keep (S' := (· < w.heap.size)) fun i hi => ⟨hi, (hb23.block i (by omega)).trans (HB2.out.block i hi)⟩))
  have hlen := sha_len s.data.toList
  have HLEN := Lib.hid hlen
  clear hd1 hb1 hsl hbc hzc C hb hb12 hlen
  go_wp2_with (first
    | (refine store_B rfl (.tmp 5) (.tmp 8) rfl w2.heap.size (flb 32 []) (sha s.data.toList) rfl rfl 23 hn1 (sha_len _) (by simp [flb]) ?_)
    | (at_builtin; refine app_row rfl (.tmp 9) (.tmp 10) rfl w2.heap.size 32 _ _ _ (sha s.data.toList) l 23 rfl HLEN.out.symm rfl hn2 HL2.out (by rw [HLEN.out]; omega) ?_; intro A4 c4 w4 hy4 hb4; have HY4 := Lib.hid hy4; have HB4 := Lib.hid hb4; clear hy4 hb4))
  have hz3 := HB4.out.size
  simp only [setRow_size, World.size_alloc] at hz3
  have hb24 : Below w2.heap.size w2 w4 := hb23.trans (HB4.out.mono (by simp))
  have hb4 : Below w.heap.size w w4 := HB2.out.trans (hb24.mono (by omega))
  have hd4 := HD2.out.keep (hb24.block _ (by omega))
  have C := sum_all (sha s.data.toList ++ l) A4 c4 w4 (HY4.out.keep fun i hi => ⟨by
    rcases hi with rfl | hi
    · omega
    · exact hi.2, rfl⟩) (HK.out.keep (hb4.block 0 hlt0))
  rw [List.length_append] at C
  refine C.mono ?_
  rintro e w5 ⟨rfl, hb5⟩
  have hz5 := hb5.size
  have HB5 := Lib.hid (hb4.trans (hb5.mono (by omega)))
  have hd5 := hd4.keep (hb5.block _ (by omega))
  have hr5 := hd5.setRow (sha (sha s.data.toList ++ l))
  clear hn1 hn2 hb23 hb24 hb4 hd4 C hb5
  go_wp2_with (refine store_B rfl (.tmp 4) (.tmp 12) rfl w.heap.size (flb 32 []) (sha (sha s.data.toList ++ l)) rfl rfl 23 hd5 (sha_len _) (by simp [flb]) ?_)
  exact bodyPost_ret (res_B rfl _ _ _ _ _ rfl hr5 (sha_len _)) rfl ⟨rfl, below_setRow HB5.out (Nat.le_refl _) _⟩
end
section
set_option maxRecDepth 100000
open Go.RowKit Go.Shelf

def lren : Go.Shelf.Ren := ⟨fun | 125 => 92 | 128 => 107 | 129 => 108 | n => n, fun | 46 => 95 | 3 => 3 | 51 => 107 | 53 => 94 | 4 => 4 | 5 => 5 | 9 => 9 | n => n, fun | n => n⟩
theorem llays : Go.Proofs.Lays.n125 Tryd.prog lren := {
  mixed := by kernel_rfl
  f125 := Tryd.func92.trans (congrArg some (by kernel_rfl))
  f128 := Tryd.func107.trans (congrArg some (by kernel_rfl))
  f129 := Tryd.func108.trans (congrArg some (by kernel_rfl))
  t3 := Tryd.underlying3
  a3 := Tryd.isAgg3
  z3 := Tryd.sizeOf3
  v3 := Tryd.zeroValue3
  t4 := Tryd.underlying4
  a4 := Tryd.isAgg4
  z4 := Tryd.sizeOf4
  v4 := Tryd.zeroValue4
  t5 := Tryd.underlying5
  a5 := Tryd.isAgg5
  z5 := Tryd.sizeOf5
  v5 := Tryd.zeroValue5
  t9 := Tryd.underlying9
  a9 := Tryd.isAgg9
  z9 := Tryd.sizeOf9
  v9 := Tryd.zeroValue9
  t46 := Tryd.underlying95
  a46 := Tryd.isAgg95
  z46 := Tryd.sizeOf95
  v46 := Tryd.zeroValue95
  t51 := Tryd.underlying107
  a51 := Tryd.isAgg107
  z51 := Tryd.sizeOf107
  v51 := Tryd.zeroValue107
  t53 := Tryd.underlying94
  a53 := Tryd.isAgg94
  z53 := Tryd.sizeOf94
  v53 := Tryd.zeroValue94 }
theorem len_all (x : Nat) (w : World) (hx : x < 18446744073709551616) :
    Calls Tryd.prog 92 #[.int .u64 (x : Int)] w fun e w' => e = .returned (.int .i64 (Lib.bitLen x)) ∧ w' = w :=
  Go.Proofs.Any.bits_Len llays (x : Int) w (by omega) (by omega)

theorem aux_bd (f : Nat) : ∀ x, x < 2 ^ f → 0 < x → ∃ k, Lib.bitLenAux f x = k + 1 ∧ 2 ^ k ≤ x ∧ x < 2 ^ (k + 1) := by
  induction f with
  | zero => intro x h h0; simp at h; omega
  | succ f ih =>
    intro x h h0
    rw [Lib.bitLenAux, if_neg (by omega)]
    by_cases h1 : x / 2 = 0
    · refine ⟨0, ?_, by omega, by omega⟩
      rw [h1]
      cases f <;> simp [Lib.bitLenAux]
    · obtain ⟨k, hk, h2, h3⟩ := ih (x / 2) (by rw [Nat.pow_succ] at h; omega) (by omega)
      refine ⟨k + 1, by omega, by rw [Nat.pow_succ]; omega, by rw [Nat.pow_succ]; omega⟩

/-- the greatest power of 2 less than n -/
def hf (n : Nat) : Nat := 2 ^ (Lib.bitLen (n - 1) - 1)
theorem hf_spec (n : Nat) (h : 2 ≤ n) (hn : n ≤ 2 ^ 64) : ∃ k, Lib.bitLen (n - 1) = k + 1 ∧ hf n = 2 ^ k ∧ hf n < n ∧ n ≤ 2 * hf n ∧ 0 < hf n := by
  obtain ⟨k, hk, h1, h2⟩ := aux_bd 64 (n - 1) (by omega) (by omega)
  have e : hf n = 2 ^ k := by rw [hf, Lib.bitLen, hk]; rfl
  refine ⟨k, hk, e, ?_, ?_, ?_⟩ <;> rw [e]
  · omega
  · rw [Nat.pow_succ] at h2; omega
  · exact Nat.two_pow_pos k

set_option maxHeartbeats 800000 in
theorem split_all (n : Nat) (w : World) (h : 2 ≤ n) (hn : n ≤ 2199023255552) :
    Calls Tryd.prog 61 #[.int .i64 n] w fun e w' => e = .returned (.int .i64 (hf n)) ∧ w' = w := by
  obtain ⟨k, hk, he, h1, h2, h3⟩ := hf_spec n h (by omega)
  have hkl : k < 42 := by
    by_cases hc : k < 42
    · exact hc
    · have : 2 ^ 42 ≤ 2 ^ k := Nat.pow_le_pow_right (by omega) (by omega)
      omega
  have C := len_all (n - 1) w (by omega)
  rw [hk] at C
  have e1 : ((n - 1 : Nat) : Int) = (n : Int) - 1 := by omega
  rw [e1] at C
  have e2 : IntKind.u64.wrap ((n : Int) - 1) = n - 1 := by rw [IntKind.wrap_u64]; omega
  have e3 : (((k + 1 : Nat) : Int) - 1) = k := by omega
  have hp : ((2 ^ k : Nat) : Int) < 4398046511104 := by
    have : 2 ^ k < 2 ^ 42 := Nat.pow_lt_pow_right (by omega) hkl
    omega
  have HE := Lib.hid he
  have HP := Lib.hid hp
  clear he hk e1 hp h1 h2 h3
  go_enter Tryd.func61, Tryd.ntmps61
  go_wp2_with fail
  refine C.mono ?_
  rintro e w' ⟨rfl, rfl⟩
  go_wp2_with fail
  go_ret
  refine ⟨ret_int ?_, rfl⟩
  have h1 := HP.out
  rw [HE.out]
  rw [Int.natCast_pow] at h1 ⊢
  have h0 : (0 : Int) ≤ ((2 : Nat) : Int) ^ k := Int.le_of_lt (Int.pow_pos (by decide))
  have e4 : ((2 : Nat) : Int) = 2 := rfl
  rw [e4] at h0 h1 ⊢
  unfold wrap64
  omega
end
section
set_option maxRecDepth 100000
open Go.RowKit

/-- a result variable and boxes behind it -/
theorem box1 (w : World) (c : Array Value) (t : TypeId) (W1 : World) (h : w.alloc (.cells c t) = W1) : W1.heap[w.heap.size]? = some (.cells c t (0, 0)) ∧ Below w.heap.size w W1 ∧ W1.heap.size = w.heap.size + 1 := by
  subst h
  exact ⟨heap_alloc_new w _, (Below.refl _ _).alloc (Nat.le_refl _) _, by simp⟩
theorem box2 (w : World) (c d : Array Value) (t u : TypeId) (W1 : World) (h : (w.alloc (.cells c t)).alloc (.cells d u) = W1) :
    W1.heap[w.heap.size]? = some (.cells c t (0, 0)) ∧ W1.heap[w.heap.size + 1]? = some (.cells d u (0, 0)) ∧ Below w.heap.size w W1 ∧ W1.heap.size = w.heap.size + 2 := by
  obtain ⟨h1, h2, h3⟩ := box1 w c t _ rfl
  obtain ⟨k1, k2, k3⟩ := box1 _ d u W1 h
  rw [h3] at k1 k2 k3
  exact ⟨(k2.block _ (by omega)).trans h1, k1, h2.trans (k2.mono (by omega)), k3⟩
theorem box3 (w : World) (c d f : Array Value) (t u v : TypeId) (W1 : World) (h : ((w.alloc (.cells c t)).alloc (.cells d u)).alloc (.cells f v) = W1) :
    W1.heap[w.heap.size]? = some (.cells c t (0, 0)) ∧ W1.heap[w.heap.size + 1]? = some (.cells d u (0, 0)) ∧ W1.heap[w.heap.size + 2]? = some (.cells f v (0, 0)) ∧ Below w.heap.size w W1 ∧ W1.heap.size = w.heap.size + 3 := by
  obtain ⟨h1, h2, h3, h4⟩ := box2 w c d t u _ rfl
  obtain ⟨k1, k2, k3⟩ := box1 _ f v W1 h
  rw [h4] at k1 k2 k3
  exact ⟨(k2.block _ (by omega)).trans h1, (k2.block _ (by omega)).trans h2, k1, h3.trans (k2.mono (by omega)), k3⟩
/-- the store of a digest, as a region's walk meets it -/
theorem st_row (w : World) (g : Nat) (t : TypeId) (l l' : List UInt8) (h : RowB w g t l) (hl : l.length = 32) (hl' : l'.length = 32) :
    (storeVar 23 ⟨g, 0, none⟩ (.agg (U l').toArray)).run Tryd.prog w = .ok () (w.setRow g (U l').toArray) ∧
    (storeCells ⟨g, 0, none⟩ (U l') 0).run Tryd.prog w = .ok () (w.setRow g (U l').toArray) := by
  have h1 := run_storeVar_row (P := Tryd.prog) w g t 23 _ (U l').toArray h (by rw [sz32, U_size, hl']) (by rw [U_size, U_size, hl, hl']) (U_ones l')
  refine ⟨h1, ?_⟩
  cases hq : Tryd.prog.info? 23 with
  | none =>
    have := sz32
    rw [hq] at this
    cases this
  | some i =>
    have hs : i.size = 32 := by
      have := sz32
      rw [hq] at this
      simpa using this
    have hu : (U l').length = 32 := by rw [U_length, hl']
    simpa [storeVar, sizeOf, typeInfo, hq, Value.cells, hs, hu] using h1
theorem max32 : 32 ≤ maxLen := by simp only [maxLen]; omega
/-- a slice of digests that reads as L -/
def DL (w : World) (S : Nat → Prop) (L : List (List UInt8)) (A : Option Addr) (cap : Nat) : Prop :=
  L.length ≤ cap ∧ cap ≤ maxLen ∧ (A = none → cap = 0) ∧ (∀ d ∈ L, d.length = 32) ∧ (0 < L.length → ∃ b o, A = some ⟨b, o, none⟩ ∧ S b ∧ ∀ i d, L[i]? = some d → w.rangeAt b (o + i * 32) (U d))
theorem DL.keep {w w' : World} {S S' : Nat → Prop} {L : List (List UInt8)} {A : Option Addr} {cap : Nat} (h : DL w S L A cap) (hs : ∀ i, S i → S' i ∧ w'.heap[i]? = w.heap[i]?) : DL w' S' L A cap := by
  refine ⟨h.1, h.2.1, h.2.2.1, h.2.2.2.1, fun hp => ?_⟩
  obtain ⟨b, o, e, hS, hc⟩ := h.2.2.2.2 hp
  exact ⟨b, o, e, (hs b hS).1, fun i d hd j u hu => (World.cell?_of_block (hs b hS).2).trans (hc i d hd j u hu)⟩
theorem DL.take {w : World} {S : Nat → Prop} {L : List (List UInt8)} {A : Option Addr} {cap : Nat} (h : DL w S L A cap) (n : Nat) : DL w S (L.take n) A cap := by
  refine ⟨by rw [List.length_take]; have := h.1; omega, h.2.1, h.2.2.1, fun d hd => h.2.2.2.1 d (List.mem_of_mem_take hd), fun hp => ?_⟩
  rw [List.length_take] at hp
  obtain ⟨b, o, e, hS, hc⟩ := h.2.2.2.2 (by omega)
  refine ⟨b, o, e, hS, fun i d hd => hc i d ?_⟩
  rw [List.getElem?_take] at hd
  split at hd
  · exact hd
  · cases hd
theorem DL.drop {w : World} {S : Nat → Prop} {L : List (List UInt8)} {b o cap : Nat} (h : DL w S L (some ⟨b, o, none⟩) cap) (n : Nat) : DL w S (L.drop n) (some ⟨b, o + n * 32, none⟩) (cap - n) := by
  refine ⟨by rw [List.length_drop]; have := h.1; omega, by have := h.2.1; omega, (fun e => by cases e), fun d hd => h.2.2.2.1 d (List.mem_of_mem_drop hd), fun hp => ?_⟩
  rw [List.length_drop] at hp
  obtain ⟨b', o', e, hS, hc⟩ := h.2.2.2.2 (by omega)
  injection e with e
  injection e with e1 e2
  subst e1 e2
  refine ⟨b, o + n * 32, rfl, hS, fun i d hd => ?_⟩
  rw [List.getElem?_drop] at hd
  have := hc _ _ hd
  rwa [show o + n * 32 + i * 32 = o + (n + i) * 32 by rw [Nat.add_mul]; omega]
theorem load_D {ops : Array Oper} {rest : List Oper} {o : Oper} {a : Act} {w : World} {Q : Exit → Act → World → Prop} (hgd : o.guard = none) (x : Operand) (ho : o.op = .load 23 x)
    (b ofs : Nat) (d : List UInt8) (hx : a.eval x = .pointer (some ⟨b, ofs, none⟩)) (h : w.rangeAt b ofs (U d)) (hd : d.length = 32)
    (hK : wpList Tryd.prog ops Q rest (a.put o.dst (.agg (U d).toArray)) w) : wpList Tryd.prog ops Q (o :: rest) a w :=
  wpList_load_mid hgd 23 x ho b ofs hx (U d) _ h Tryd.underlying23 rfl (by rw [sz32, U_length, hd]) hK
theorem byt_nil (w : World) (S : Nat → Prop) : Byt w S [] none 0 := ⟨Nat.le_refl _, Nat.zero_le _, fun _ => rfl, fun h => absurd h (by simp)⟩
theorem part_u8 (l : List UInt8) (i : Nat) (h : i < l.length) (w : World) : (part 5 (U l).toArray i).run Tryd.prog w = .ok (.int .u8 (by_ l i).toNat) w := by
  have hg : (U l)[i]? = some (.int .u8 (by_ l i).toNat) := by
    rw [U_get, List.getElem?_eq_getElem h, by_, List.getD_eq_getElem?_getD, List.getElem?_eq_getElem h]
    rfl
  have hagg : (isAgg 5).run Tryd.prog w = .ok false w := Tryd.isAgg5 w
  simp [part, hagg, hg]
theorem items_u8 (d : Nat) (l m : List UInt8) (w : World) (hl : l.length = 32) (hm : m.length = 32) : ∀ is : List Nat, (∀ i ∈ is, i < 32) →
    (Op.eqItems (d + 1) 5 1 (U l).toArray (U m).toArray is).run Tryd.prog w = .ok (is.all fun i => by_ l i == by_ m i) w
  | [], _ => by simp [Op.eqItems]
  | i :: is, h => by
    have hi := h i (List.mem_cons_self ..)
    have ih := items_u8 d l m w hl hm is (fun j hj => h j (List.mem_cons_of_mem _ hj))
    have e1 := part_u8 l i (by omega) w
    have e2 := part_u8 m i (by omega) w
    have e3 := run_equalIn_int (P := Tryd.prog) (w := w) d 5 .u8 .u8 (by_ l i).toNat (by_ m i).toNat Tryd.underlying5
    simp only [Op.eqItems, Nat.mul_one, Sem.run_bind, e1, e2, e3, Result.andThen_ok, List.all_cons]
    by_cases hb : by_ l i = by_ m i
    · simp [hb, ih]
    · have : ¬ ((by_ l i).toNat : Int) = (by_ m i).toNat := fun e => hb (UInt8.toNat_inj.1 (by omega))
      simp [hb, this]
theorem all_by (l m : List UInt8) (hl : l.length = 32) (hm : m.length = 32) : ((List.range 32).all fun i => by_ l i == by_ m i) = decide (l = m) := by
  by_cases h : l = m
  · subst h; simp
  · rw [decide_eq_false h]
    by_cases hx : ((List.range 32).all fun i => by_ l i == by_ m i) = true
    · exfalso
      apply h
      apply List.ext_getElem (by omega)
      intro i h1 h2
      have := List.all_eq_true.1 hx i (List.mem_range.2 (by omega))
      have e : by_ l i = by_ m i := by simpa using this
      rw [by_, by_, List.getD_eq_getElem?_getD, List.getD_eq_getElem?_getD, List.getElem?_eq_getElem h1, List.getElem?_eq_getElem h2] at e
      simpa using e
    · simpa using hx
theorem eq_dig (l m : List UInt8) (hl : l.length = 32) (hm : m.length = 32) (w : World) : (Op.equalIn 10000 23 (.agg (U l).toArray) (.agg (U m).toArray)).run Tryd.prog w = .ok (decide (l = m)) w := by
  obtain ⟨i, hi, _⟩ := info_parts info_u8
  have hc : Tryd.prog.cellsOf 5 = 1 := by kernel_rfl
  have := run_equalIn_array (P := Tryd.prog) (w := w) 9999 (U l).toArray (U m).toArray Tryd.underlying23 hi
  rw [this, hc, items_u8 9998 l m w hl hm _ (fun i h => List.mem_range.1 h), all_by l m hl hm]
theorem eq_self (l : List UInt8) (hl : l.length = 32) (w : World) : (Op.equalIn 10000 23 (.agg (U l).toArray) (.agg (U l).toArray)).run Tryd.prog w = .ok true w := by
  rw [eq_dig l l hl hl, decide_eq_true rfl]
/-- a digest and an error number, handed back -/
theorem res_two {fn : Func} {p q : Tmp} (h : fn.results = #[.cell p 23, .tmp q]) (tmps : Array Value) (w : World) (g : Nat) (t : TypeId) (l : List UInt8) (v : Value)
    (hp : tmps.getD p undef = .pointer (some ⟨g, 0, none⟩)) (hq : tmps.getD q undef = v) (hg : RowB w g t l) (hl : l.length = 32) :
    (results fn tmps).run Tryd.prog w = .ok (.tuple #[.agg (U l).toArray, v]) w := by
  have hld := run_loadVar_row (P := Tryd.prog) w g t 23 _ (0, 0) _ hg Tryd.underlying23 rfl (by rw [sz32, U_size, hl])
  have hp' : tmps[p]?.getD undef = .pointer (some ⟨g, 0, none⟩) := by simpa using hp
  have hq' : tmps[q]?.getD undef = v := by simpa using hq
  simp [results, h, hp', hq', asAddr, hld]
def z32 : List UInt8 := List.replicate 32 0
theorem info_d : (Tryd.prog.info? 23).map (fun i => (i.zero, i.size, i.bytes)) = some (some (.agg (U z32).toArray), 32, 32) := by kernel_rfl
theorem fold_set : ∀ (vs : List Value) (k : Nat) (cs : Array Value), k + vs.length = cs.size → ((vs.zipIdx k).foldl (fun cs x => cs.setIfInBounds x.2 x.1) cs).toList = cs.toList.take k ++ vs
  | [], k, cs, h => by
    have : cs.toList.take k = cs.toList := List.take_of_length_le (by simp at h ⊢; omega)
    simp [this]
  | v :: vs, k, cs, h => by
    have hk : k < cs.toList.length := by simp at h ⊢; omega
    rw [List.zipIdx_cons, List.foldl_cons, fold_set vs (k + 1) _ (by simp at h ⊢; omega)]
    have e : (cs.setIfInBounds k v).toList = cs.toList.take k ++ v :: cs.toList.drop (k + 1) := by
      rw [Array.toList_setIfInBounds, List.set_eq_take_append_cons_drop, if_pos hk]
    rw [e, List.take_append, List.length_take, Nat.min_eq_left (by omega), List.take_of_length_le (by rw [List.length_take]; omega), show k + 1 - k = 1 by omega]
    simp
/-- a list of one digest, as a literal -/
theorem run_bs (d : List UInt8) (hd : d.length = 32) (w : World) : (Instr.buildSlice 26 1 #[(0, .agg (U d).toArray)]).run Tryd.prog w = .ok (.slice (some ⟨w.heap.size, 0, none⟩) 1 1) (w.alloc (.cells (U d).toArray 23)) := by
  obtain ⟨i, hi, hz0, hz1, hz2⟩ := info_parts info_d
  refine run_buildSlice w 26 23 1 _ _ i _ Tryd.underlying26 hi hz0 (by rw [hz1]; omega) (by rw [hz1]; omega) ?_
  rw [hz1]
  have hu : (U d).length = 32 := by rw [U_length, hd]
  have hf := fold_set (U d) 0 (Array.map (fun x => (U z32)[x % (U z32).length]?.getD default) (Array.range 32)) (by simp [hu])
  simp [Instr.fill, Value.cells, hu]
  apply Array.toList_inj.1
  rw [hf]
  simp
theorem run_mk64 (w : World) : (Instr.makeSlice 62 (.int .i64 64) (.int .i64 64)).run Tryd.prog w = .ok (.slice (some ⟨w.heap.size, 0, none⟩) 64 64) (w.alloc (.cells (U (List.replicate 64 0)).toArray 5)) := by
  obtain ⟨i, hi, hz0, hz1, hz2⟩ := info_parts info_u8
  have := run_makeSlice (P := Tryd.prog) (w := w) 62 5 i (.int .u8 0) Tryd.underlying62 hi hz0 .i64 .i64 64 64 (by decide) (by decide) (by rw [hz1]; decide) (by rw [hz2]; decide) (by decide)
  rw [hz1] at this
  have e : madeCells (Value.int .u8 0).cells 64 = (U (List.replicate 64 0)).toArray := by kernel_rfl
  rw [show Int.toNat 64 * 1 = 64 from rfl, e] at this
  exact this
theorem frz (w : World) (c : Array Value) (t : TypeId) (n : Nat) : ((w.alloc (.cells c t)).freeze ⟨w.heap.size, n, none⟩ 1).heap[w.heap.size]? = some (.cells c t (n, n + 1)) ∧
    Below w.heap.size w ((w.alloc (.cells c t)).freeze ⟨w.heap.size, n, none⟩ 1) ∧ ((w.alloc (.cells c t)).freeze ⟨w.heap.size, n, none⟩ 1).heap.size = w.heap.size + 1 := by
  refine ⟨?_, ⟨rfl, rfl, rfl, ?_, fun k hk => ?_⟩, ?_⟩
  · simp [World.freeze, World.alloc, -World.alloc_eq]
    rw [Array.getElem_modify_self]
    simp
  · simp [World.freeze, World.alloc, -World.alloc_eq]
  · have h1 : w.heap.size ≠ k := by omega
    simp [World.freeze, World.alloc, -World.alloc_eq, Array.getElem?_modify, Array.getElem?_push, h1, Ne.symm h1]
  · simp [World.freeze, World.alloc, -World.alloc_eq]
theorem wp_app_own {o : Oper} {a : Act} {K : Act → World → Prop} {Q : Exit → Act → World → Prop} {w : World} (s x : Operand)
    (ho : o.op = .call { callee := .builtin .append, args := #[s, x], argTypes := #[62, 62] })
    (base : Nat) (v : Value) (S : Nat → Prop) (A : Option Addr) (cap : Nat) (l l2 : List UInt8) (hs : a.eval s = v) (hx : a.eval x = .slice A l2.length cap) (hown : Own w base v l) (hsrc : Byt w S l2 A cap)
    (hlen : l.length + l2.length ≤ 140737488355328) (hbase : base ≤ w.heap.size)
    (h : ∀ v' w', Own w' base v' (l ++ l2) → w.grownBy w' v.ownBlock → K (a.put o.dst v') w') : o.wp Tryd.prog a w K Q := by
  obtain ⟨i, hi, hz0, hz1, hz2⟩ := info_parts info_u8
  rcases A with _ | ad
  · obtain rfl := hsrc.2.2.1 rfl
    have h0 := hsrc.1
    obtain rfl : l2 = [] := List.eq_nil_of_length_eq_zero (by omega)
    have hrun := run_append_owned_none (P := Tryd.prog) (w := w) base 62 o.type 5 i 1 Tryd.underlying62 hi v l.length (U l) hown
    have hx' : a.eval x = .slice none 0 0 := hx
    have := h v w (by rw [List.append_nil]; exact hown) ⟨rfl, rfl, rfl, Nat.le_refl _, fun _ _ _ => rfl⟩
    unfold Oper.wp
    simp [execOp, ho, resolve, invoke, builtin, hs, hx', hrun, Result.andThen]
    exact this
  · refine wp_append_own w s x 62 ho base 5 i (.int .u8 0) 1 1 Tryd.underlying62 hi hz0 hz1 hz2 rfl (by omega) v l.length (U l) hs hown ad l2.length cap (U l2)
      hx (by rw [U_length, Nat.mul_one]) (fun j u hu => ?_) (U_one l2) (by simp only [maxLen]; omega) (by omega) hbase ?_
    · have hj : j < l2.length := by
        by_cases h : j < l2.length
        · exact h
        · rw [List.getElem?_eq_none (by rw [U_length]; omega)] at hu; cases hu
      obtain ⟨b, o, e, _, hc⟩ := hsrc.2.2.2 (by omega)
      injection e with e
      subst e
      rw [Go.WideShapes.add_plain]
      exact hc j u hu
    · intro v' w' h1 h2 _
      refine h v' w' ?_ h2
      unfold Own
      rw [List.length_append, U_append]
      exact h1
theorem step_app_own {ops : Array Oper} {o : Oper} {a : Act} {K : Act → World → Prop} {Q : Exit → Act → World → Prop} {E : Prop} {w : World} (hgd : o.guard = none) (s x : Operand)
    (ho : o.op = .call { callee := .builtin .append, args := #[s, x], argTypes := #[62, 62] })
    (base : Nat) (v : Value) (S : Nat → Prop) (A : Option Addr) (cap : Nat) (l l2 : List UInt8) (hs : a.eval s = v) (hx : a.eval x = .slice A l2.length cap) (hown : Own w base v l) (hsrc : Byt w S l2 A cap)
    (hlen : l.length + l2.length ≤ 140737488355328) (hbase : base ≤ w.heap.size)
    (h : ∀ v' w', Own w' base v' (l ++ l2) → w.grownBy w' v.ownBlock → K (a.put o.dst v') w') : if Region.wanted o (yielded ops a.tmps) = true then Oper.wp Tryd.prog o a w K Q else E := by
  have hw : Region.wanted o (yielded ops a.tmps) = true := by simp [Region.wanted, hgd]
  rw [if_pos hw]
  exact wp_app_own s x ho base v S A cap l l2 hs hx hown hsrc hlen hbase h
/-- append of a digest's bytes onto a slice without room -/
theorem step_app_new {ops : Array Oper} {o : Oper} {a : Act} {K : Act → World → Prop} {Q : Exit → Act → World → Prop} {E : Prop} {w : World} (hgd : o.guard = none) (s x : Operand)
    (ho : o.op = .call { callee := .builtin .append, args := #[s, x], argTypes := #[62, 62] })
    (g b n : Nat) (t : TypeId) (l : List UInt8) (hs : a.eval s = .slice (some ⟨g, 0, none⟩) 0 0) (hx : a.eval x = .slice (some ⟨b, 0, none⟩) n n) (hn : n = l.length) (hpos : 0 < n) (hrow : RowB w b t l)
    (hlen : l.length ≤ 140737488355328)
    (h : ∀ A' c' w', Own w' w.heap.size (.slice A' l.length c') l → Below w.heap.size w w' → K (a.put o.dst (.slice A' l.length c')) w') : if Region.wanted o (yielded ops a.tmps) = true then Oper.wp Tryd.prog o a w K Q else E := by
  have hw : Region.wanted o (yielded ops a.tmps) = true := by simp [Region.wanted, hgd]
  rw [if_pos hw]
  obtain ⟨i, hi, hz0, hz1, hz2⟩ := info_parts info_u8
  subst hn
  obtain ⟨v', w', hrun, h1, h2⟩ := run_append_arg_grows (P := Tryd.prog) w 62 o.type 5 i (.int .u8 0) 1 1 Tryd.underlying62 hi hz0 hz1 hz2 rfl (by omega) ⟨g, 0, none⟩ 0 0 [] rfl
    (fun j u hu => by cases hu) ⟨b, 0, none⟩ l.length l.length (U l) (by rw [U_length, Nat.mul_one]) (fun j u hu => by
      rw [Go.WideShapes.add_plain, Nat.zero_add, cell_of_row w b j _ _ _ hrow]
      simpa using hu) (by omega) (by simp only [maxLen]; omega) (by omega)
  rw [Nat.zero_add, List.nil_append] at h1
  have hown : Own w' w.heap.size v' l := h1
  obtain ⟨A', c', rfl, _⟩ := hown.byt
  have := h A' c' w' hown ((Below.refl _ _).grown h2 (Nat.le_refl _) (fun k hk => by cases hk))
  unfold Oper.wp
  simp [execOp, ho, resolve, invoke, builtin, hs, hx, hrun, Result.andThen]
  exact this
/-- a slice of digests of the call's own -/
def OwnD (w : World) (base : Nat) (v : Value) (L : List (List UInt8)) : Prop := w.ownsRow base 23 32 v L.length (L.flatMap U) ∧ ∀ d ∈ L, d.length = 32
theorem flat_len (L : List (List UInt8)) (h : ∀ d ∈ L, d.length = 32) : (L.flatMap U).length = L.length * 32 := by
  induction L with
  | nil => rfl
  | cons d L ih =>
    have h1 := h d (List.mem_cons_self ..)
    rw [List.flatMap_cons, List.length_append, ih (fun x hx => h x (List.mem_cons_of_mem _ hx)), U_length, h1, List.length_cons]
    omega
theorem flat_at : ∀ (L : List (List UInt8)) (i : Nat) (d : List UInt8) (j : Nat) (u : Value), (∀ d ∈ L, d.length = 32) → L[i]? = some d → (U d)[j]? = some u → (L.flatMap U)[i * 32 + j]? = some u
  | [], i, d, j, u, _, hd, _ => by simp at hd
  | c :: L, 0, d, j, u, h, hd, hu => by
    simp at hd
    subst hd
    have hj : j < (U c).length := by
      by_cases hc : j < (U c).length
      · exact hc
      · rw [List.getElem?_eq_none (by omega)] at hu; cases hu
    rw [List.flatMap_cons, Nat.zero_mul, Nat.zero_add, List.getElem?_append_left hj]
    exact hu
  | c :: L, i + 1, d, j, u, h, hd, hu => by
    have h1 := h c (List.mem_cons_self ..)
    have ih := flat_at L i d j u (fun x hx => h x (List.mem_cons_of_mem _ hx)) (by simpa using hd) hu
    rw [List.flatMap_cons, List.getElem?_append_right (by rw [U_length, h1]; omega), U_length, h1, show (i + 1) * 32 + j - 32 = i * 32 + j by omega]
    exact ih
theorem OwnD.dl {w : World} {b : Nat} {v : Value} {L : List (List UInt8)} (h : OwnD w b v L) : ∃ A cap, v = .slice A L.length cap ∧ DL w (fun i => b ≤ i ∧ i < w.heap.size) L A cap := by
  have hcs : ∀ g, v.ownBlock = some g → ∀ j u, (L.flatMap U)[j]? = some u → w.cell? ((⟨g, 0, none⟩ : Addr).add j) = some u := fun g hg => World.ownsRow.cells h.1 hg
  rcases h.1.2 with ⟨rfl, h0⟩ | ⟨g, cap, cur, rfl, hb, hh, h1, h2, _⟩
  · exact ⟨none, 0, by rw [h0], by omega, Nat.zero_le _, fun _ => rfl, h.2, fun hp => by omega⟩
  · refine ⟨some ⟨g, 0, none⟩, cap, rfl, h1, h2, (fun e => by cases e), h.2, fun _ => ⟨g, 0, rfl, ⟨hb, (Array.getElem?_eq_some_iff.1 hh).1⟩, fun i d hd j u hu => ?_⟩⟩
    have := hcs g rfl (i * 32 + j) u (flat_at L i d j u h.2 hd hu)
    rw [Nat.zero_add]
    rwa [Go.WideShapes.add_plain, Nat.zero_add] at this
theorem OwnD.slice {w : World} {b : Nat} {v : Value} {L : List (List UInt8)} (h : OwnD w b v L) : ∃ A cap, v = .slice A L.length cap := by
  obtain ⟨A, cap, e, _⟩ := h.dl
  exact ⟨A, cap, e⟩
theorem OwnD.alloc {w : World} {b : Nat} {v : Value} {L : List (List UInt8)} (h : OwnD w b v L) (o : Obj) : OwnD (w.alloc o) b v L := ⟨World.ownsRow.alloc h.1 o, h.2⟩
theorem OwnD.kept {w w' : World} {b : Nat} {v : Value} {L : List (List UInt8)} (h : OwnD w b v L) (hk : ∀ g, v.ownBlock = some g → w'.heap[g]? = w.heap[g]?) : OwnD w' b v L := by
  refine ⟨⟨h.1.1, ?_⟩, h.2⟩
  rcases h.1.2 with h | ⟨g, cap, cur, e, hg, hh, r⟩
  · exact .inl h
  · exact .inr ⟨g, cap, cur, e, hg, by rw [hk g (by rw [e]; rfl)]; exact hh, r⟩
theorem OwnD.nil (w : World) (b : Nat) : OwnD w b (.slice none 0 0) [] := ⟨World.ownsRow_nil _ _ _ _, fun d hd => by cases hd⟩
theorem ownD_empty (w : World) : OwnD (w.alloc (.cells #[] 23)) w.heap.size (.slice (some ⟨w.heap.size, 0, none⟩) 0 0) [] :=
  ⟨⟨rfl, .inr ⟨w.heap.size, 0, #[], rfl, Nat.le_refl _, heap_alloc_new w _, Nat.le_refl _, Nat.zero_le _, rfl, rfl⟩⟩, fun d hd => by cases hd⟩
theorem below_ownD {B b : Nat} {a w w' : World} {v : Value} {L : List (List UInt8)} (h : Below B a w) (hg : w.grownBy w' v.ownBlock) (ho : OwnD w b v L) (hb : B ≤ b) (hs : B ≤ w.heap.size) : Below B a w' :=
  h.grown hg hs fun k hk => by have := (World.ownsRow.lt ho.1 k hk).1; omega
theorem wp_app_dig {o : Oper} {a : Act} {K : Act → World → Prop} {Q : Exit → Act → World → Prop} {w : World} (s x : Operand)
    (ho : o.op = .call { callee := .builtin .append, args := #[s, x], argTypes := #[26, 26] })
    (base g : Nat) (v : Value) (L : List (List UInt8)) (d : List UInt8) (hs : a.eval s = v) (hx : a.eval x = .slice (some ⟨g, 0, none⟩) 1 1) (hown : OwnD w base v L) (hsrc : RowB w g 23 d) (hd : d.length = 32)
    (hlen : L.length + 1 ≤ 1099511627776) (hbase : base ≤ w.heap.size)
    (h : ∀ v' w', OwnD w' base v' (L ++ [d]) → w.grownBy w' v.ownBlock → K (a.put o.dst v') w') : o.wp Tryd.prog a w K Q := by
  obtain ⟨i, hi, hz0, hz1, hz2⟩ := info_parts info_d
  refine wp_append_own w s x 26 ho base 23 i (.agg (U z32).toArray) 32 32 Tryd.underlying26 hi hz0 hz1 hz2 rfl (by omega) v L.length (L.flatMap U) hs hown.1 ⟨g, 0, none⟩ 1 1 (U d)
    hx (by rw [U_length, hd]) (fun j u hu => ?_) (U_one d) (by simp only [maxLen]; omega) (by omega) hbase ?_
  · rw [Go.WideShapes.add_plain, Nat.zero_add, cell_of_row w g j _ _ _ hsrc]
    simpa using hu
  · intro v' w' h1 h2 _
    refine h v' w' ⟨?_, fun c hc => ?_⟩ h2
    · rw [List.length_append, List.flatMap_append]
      simpa using h1
    · rcases List.mem_append.1 hc with hc | hc
      · exact hown.2 c hc
      · rw [List.mem_singleton.1 hc]; exact hd
theorem app_dig {ops : Array Oper} {rest : List Oper} {o : Oper} {a : Act} {Q : Exit → Act → World → Prop} {w : World} (hgd : o.guard = none) (s x : Operand)
    (ho : o.op = .call { callee := .builtin .append, args := #[s, x], argTypes := #[26, 26] })
    (base g : Nat) (v : Value) (L : List (List UInt8)) (d : List UInt8) (hs : a.eval s = v) (hx : a.eval x = .slice (some ⟨g, 0, none⟩) 1 1) (hown : OwnD w base v L) (hsrc : RowB w g 23 d) (hd : d.length = 32)
    (hlen : L.length + 1 ≤ 1099511627776) (hbase : base ≤ w.heap.size)
    (h : ∀ v' w', OwnD w' base v' (L ++ [d]) → w.grownBy w' v.ownBlock → wpList Tryd.prog ops Q rest (a.put o.dst v') w') : wpList Tryd.prog ops Q (o :: rest) a w :=
  wpList_plain hgd fun _ hK => wp_app_dig s x ho base g v L d hs hx hown hsrc hd hlen hbase fun v' w' h1 h2 => hK _ _ (h v' w' h1 h2)
/-- a list of one digest -/
theorem bs_dig {ops : Array Oper} {rest : List Oper} {o : Oper} {a : Act} {Q : Exit → Act → World → Prop} {w : World} (hgd : o.guard = none) (x : Operand) (ho : o.op = .buildSlice 26 1 #[(0, x)])
    (d : List UInt8) (hx : a.eval x = .agg (U d).toArray) (hd : d.length = 32)
    (h : wpList Tryd.prog ops Q rest (a.put o.dst (.slice (some ⟨w.heap.size, 0, none⟩) 1 1)) (w.alloc (.cells (U d).toArray 23))) : wpList Tryd.prog ops Q (o :: rest) a w := by
  refine wpList_plain hgd fun K hK => ?_
  have hrun := run_bs d hd w
  unfold Oper.wp
  simp [execOp, ho, hx, hrun, Result.andThen]
  exact hK _ _ h
theorem RowB.b32 {w : World} {b : Nat} {t : TypeId} {l : List UInt8} (h : RowB w b t l) (hl : l.length = 32) : Byt w (fun i => i = b) l (some ⟨b, 0, none⟩) 32 := by
  have := h.byt (by rw [hl]; decide)
  rwa [hl] at this
theorem setRow_keep (w : World) (g k : Nat) (c : Array Value) (h : k ≠ g) : (w.setRow g c).heap[k]? = w.heap[k]? := setRow_other _ _ _ _ h
theorem step_store_B {ops : Array Oper} {o : Oper} {a : Act} {K : Act → World → Prop} {Q : Exit → Act → World → Prop} {E : Prop} {w : World} (hgd : o.guard = none) (x y : Operand) (ho : o.op = .store 23 x y)
    (g : Nat) (l l' : List UInt8) (hx : a.eval x = .pointer (some ⟨g, 0, none⟩)) (hy : a.eval y = .agg (U l').toArray) (h : RowB w g 23 l) (hl : l.length = 32) (hl' : l'.length = 32)
    (hK : K (a.put o.dst undef) (w.setRow g (U l').toArray)) : if Region.wanted o (yielded ops a.tmps) = true then Oper.wp Tryd.prog o a w K Q else E := by
  have hw : Region.wanted o (yielded ops a.tmps) = true := by simp [Region.wanted, hgd]
  rw [if_pos hw]
  exact wp_store_row 23 x y ho g _ hx hy 23 _ h (by rw [sz32, U_size, hl']) (by rw [U_size, U_size, hl, hl']) (U_ones l') hK
theorem step_alloc_B {ops : Array Oper} {o : Oper} {a : Act} {K : Act → World → Prop} {Q : Exit → Act → World → Prop} {E : Prop} {w : World} (hgd : o.guard = none) (ho : o.op = .alloc 23)
    (hK : K (a.put o.dst (.pointer (some ⟨w.heap.size, 0, none⟩))) (w.alloc (.cells (U (flb 32 [])).toArray 23))) : if Region.wanted o (yielded ops a.tmps) = true then Oper.wp Tryd.prog o a w K Q else E := by
  have hw : Region.wanted o (yielded ops a.tmps) = true := by simp [Region.wanted, hgd]
  rw [if_pos hw]
  unfold Oper.wp
  simp [execOp, ho, Result.andThen]
  exact hK
theorem RowB.ld {w : World} {b : Nat} {t : TypeId} {l : List UInt8} (h : RowB w b t l) (hl : l.length = 32) : (loadVar 23 ⟨b, 0, none⟩).run Tryd.prog w = .ok (.agg (U l).toArray) w :=
  run_loadVar_row w b t 23 _ (0, 0) _ h Tryd.underlying23 rfl (by rw [sz32, U_size, hl])
theorem RowB.range {w : World} {b : Nat} {t : TypeId} {l : List UInt8} (h : RowB w b t l) : w.rangeAt b 0 (U l) := fun j u hu => by
  rw [Nat.zero_add, cell_of_row w b j _ _ _ h]
  simpa using hu
theorem OwnD.low {w : World} {b b' : Nat} {v : Value} {L : List (List UInt8)} (h : OwnD w b v L) (hb : b' ≤ b) : OwnD w b' v L := by
  refine ⟨⟨h.1.1, ?_⟩, h.2⟩
  rcases h.1.2 with h | ⟨g, cap, cur, e, hg, hh, r⟩
  · exact .inl h
  · exact .inr ⟨g, cap, cur, e, by omega, hh, r⟩
theorem OwnD.step {w w' : World} {b : Nat} {v : Value} {L : List (List UInt8)} (h : OwnD w b v L) (hb : Below w.heap.size w w') : OwnD w' b v L :=
  h.kept fun g hg => hb.block g (World.ownsRow.lt h.1 g hg).2
theorem step_app_dig {ops : Array Oper} {o : Oper} {a : Act} {K : Act → World → Prop} {Q : Exit → Act → World → Prop} {E : Prop} {w : World} (hgd : o.guard = none) (s x : Operand)
    (ho : o.op = .call { callee := .builtin .append, args := #[s, x], argTypes := #[26, 26] })
    (base g : Nat) (v : Value) (L : List (List UInt8)) (d : List UInt8) (hs : a.eval s = v) (hx : a.eval x = .slice (some ⟨g, 0, none⟩) 1 1) (hown : OwnD w base v L) (hsrc : RowB w g 23 d) (hd : d.length = 32)
    (hlen : L.length + 1 ≤ 1099511627776) (hbase : base ≤ w.heap.size)
    (h : ∀ v' w', OwnD w' base v' (L ++ [d]) → w.grownBy w' v.ownBlock → K (a.put o.dst v') w') : if Region.wanted o (yielded ops a.tmps) = true then Oper.wp Tryd.prog o a w K Q else E := by
  have hw : Region.wanted o (yielded ops a.tmps) = true := by simp [Region.wanted, hgd]
  rw [if_pos hw]
  exact wp_app_dig s x ho base g v L d hs hx hown hsrc hd hlen hbase h
/-- a digest laid into new cells -/
theorem fold32 (d : List UInt8) (hd : d.length = 32) : (U d).length = 32 ∧ List.foldl (fun cs x => cs.setIfInBounds x.2 x.1) #[Value.int IntKind.u8 0, Value.int IntKind.u8 0, Value.int IntKind.u8 0, Value.int IntKind.u8 0, Value.int IntKind.u8 0, Value.int IntKind.u8 0, Value.int IntKind.u8 0, Value.int IntKind.u8 0, Value.int IntKind.u8 0, Value.int IntKind.u8 0, Value.int IntKind.u8 0, Value.int IntKind.u8 0, Value.int IntKind.u8 0, Value.int IntKind.u8 0, Value.int IntKind.u8 0, Value.int IntKind.u8 0, Value.int IntKind.u8 0, Value.int IntKind.u8 0, Value.int IntKind.u8 0, Value.int IntKind.u8 0, Value.int IntKind.u8 0, Value.int IntKind.u8 0, Value.int IntKind.u8 0, Value.int IntKind.u8 0, Value.int IntKind.u8 0, Value.int IntKind.u8 0, Value.int IntKind.u8 0, Value.int IntKind.u8 0, Value.int IntKind.u8 0, Value.int IntKind.u8 0, Value.int IntKind.u8 0, Value.int IntKind.u8 0] (U d).zipIdx = (U d).toArray := by
  have hu : (U d).length = 32 := by rw [U_length, hd]
  refine ⟨hu, ?_⟩
  apply Array.toList_inj.1
  rw [fold_set (U d) 0 _ (by rw [hu]; rfl)]
  simp
theorem flat_idx : ∀ (P : List (List UInt8)) (j : Nat) (u : Value), (∀ d ∈ P, d.length = 32) → (P.flatMap U)[j]? = some u → ∃ i d, P[i]? = some d ∧ (U d)[j - i * 32]? = some u ∧ i * 32 ≤ j
  | [], j, u, _, h => by simp at h
  | c :: P, j, u, hd, h => by
    have h1 := hd c (List.mem_cons_self ..)
    rw [List.flatMap_cons] at h
    by_cases hj : j < 32
    · rw [List.getElem?_append_left (by rw [U_length, h1]; exact hj)] at h
      exact ⟨0, c, rfl, by simpa using h, by omega⟩
    · rw [List.getElem?_append_right (by rw [U_length, h1]; omega), U_length, h1] at h
      obtain ⟨i, d, e1, e2, e3⟩ := flat_idx P (j - 32) u (fun x hx => hd x (List.mem_cons_of_mem _ hx)) h
      exact ⟨i + 1, d, by simpa using e1, by rw [show j - (i + 1) * 32 = j - 32 - i * 32 by omega]; exact e2, by omega⟩
theorem DL.one {w : World} {g : Nat} {t : TypeId} {d : List UInt8} (h : RowB w g t d) (hd : d.length = 32) : DL w (· = g) [d] (some ⟨g, 0, none⟩) 1 := by
  refine ⟨Nat.le_refl _, by simp only [maxLen]; omega, (fun e => by cases e), fun x hx => by rw [List.mem_singleton.1 hx]; exact hd, fun _ => ⟨g, 0, rfl, rfl, fun i x hx => ?_⟩⟩
  cases i with
  | zero => simp at hx; subst hx; exact h.range
  | succ i => simp at hx
/-- what an append leaves of a box beside it -/
theorem RowB.grown {w w' : World} {g : Nat} {t : TypeId} {l : List UInt8} {v : Value} (h : RowB w g t l) (hg : w.grownBy w' v.ownBlock) (hn : v.ownBlock ≠ some g) : RowB w' g t l :=
  h.keep (hg.block g h.lt (Ne.symm hn))
end
section
set_option maxRecDepth 100000
open Go.RowKit

section
variable {md : Region.Mode} {ops : Array Oper} {Q : Exit → Act → World → Prop} {S : World → Prop} {fuel : Nat} {listed : Array Bool} {a : Act} {w : World}

/-- an operation that yields v wherever S holds -/
theorem tk_val (i n : Nat) (v : Value) {oi : Oper} (hi : ops[i]? = some oi)
    (hs : Region.noSelect ops = true) (hf : Region.free md ops listed i = true) (hr : (Region.ready md ops listed).contains i = true) (hQ : ∀ c a v w, Q (.panic c) (a.put (some n) v) w → Q (.panic c) a w)
    (hg : oi.guard = none) (hd : oi.dst = some n) (hy : ∀ w, S w → (execOp a.eval oi).run Tryd.prog w = .ok (.value v) w) (h0 : S w)
    (h : wpAnyH Tryd.prog md ops Q S fuel (listed.setIfInBounds i true) (a.put (some n) v) w) : wpAnyH Tryd.prog md ops Q S (fuel + 1) listed a w :=
  wpAnyH_take (i := i) (oi := oi) (v := v) hi hs hf hr (fun c a w hq => hQ c a _ w (by rw [hd] at hq; exact hq)) (.inl ⟨by simp [Region.wanted, hg], hy⟩) h0 (by rw [hd]; exact h)
theorem tk_move (i n : Nat) (x : Operand) (v : Value) {oi : Oper} (hi : ops[i]? = some oi)
    (hs : Region.noSelect ops = true) (hf : Region.free md ops listed i = true) (hr : (Region.ready md ops listed).contains i = true) (hQ : ∀ c a v w, Q (.panic c) (a.put (some n) v) w → Q (.panic c) a w)
    (hg : oi.guard = none) (ho : oi.op = .move x) (hd : oi.dst = some n) (hx : a.eval x = v) (h0 : S w)
    (h : wpAnyH Tryd.prog md ops Q S fuel (listed.setIfInBounds i true) (a.put (some n) v) w) : wpAnyH Tryd.prog md ops Q S (fuel + 1) listed a w :=
  tk_val i n v hi hs hf hr hQ hg hd (fun w _ => by subst hx; simp [execOp, ho]) h0 h
/-- the load of a digest that S keeps -/
theorem tk_load (i n : Nat) (x : Operand) (b ofs : Nat) (l : List UInt8) {oi : Oper} (hi : ops[i]? = some oi)
    (hs : Region.noSelect ops = true) (hf : Region.free md ops listed i = true) (hr : (Region.ready md ops listed).contains i = true) (hQ : ∀ c a v w, Q (.panic c) (a.put (some n) v) w → Q (.panic c) a w)
    (hg : oi.guard = none) (ho : oi.op = .load 23 x) (hd : oi.dst = some n) (hx : a.eval x = .pointer (some ⟨b, ofs, none⟩)) (hS : ∀ w, S w → w.rangeAt b ofs (U l)) (hl : l.length = 32) (h0 : S w)
    (h : wpAnyH Tryd.prog md ops Q S fuel (listed.setIfInBounds i true) (a.put (some n) (.agg (U l).toArray)) w) : wpAnyH Tryd.prog md ops Q S (fuel + 1) listed a w :=
  wpAnyH_take (i := i) (oi := oi) (v := .agg (U l).toArray) hi hs hf hr (fun c a w hq => hQ c a _ w (by rw [hd] at hq; exact hq))
    (yieldsIf_load_mid (by simp [Region.wanted, hg]) _ x ho b ofs hx (U l) _ hS Tryd.underlying23 rfl (by rw [sz32, U_length, hl])) h0 (by rw [hd]; exact h)

/-- the one operation that may come up -/
theorem lone (i : Nat) {oi : Oper} (hr : Region.ready md ops listed = [i]) (hi : ops[i]? = some oi)
    (h : ∀ K' : Act → World → Prop, (∀ a w, S w → wpAnyH Tryd.prog md ops Q S fuel (listed.setIfInBounds i true) a w → K' a w) → if Region.wanted oi (yielded ops a.tmps) = true then Oper.wp Tryd.prog oi a w K' Q else K' (a.put oi.dst undef) w) :
    wpAnyH Tryd.prog md ops Q S (fuel + 1) listed a w :=
  wpAnyH_ready hr (by simp) (AllReadyH.cons hi (fun K' hK => h K' fun a w hS hW => hK.out a w hS fun _ => hW) AllReadyH.nil)
theorem to_call {o : Oper} {K : Act → World → Prop} {E : Prop} (k : Nat) (n : Nat) (xs : Array Operand) (ts : Array TypeId) (vs : Array Value) (R : Ending → World → Prop) (hgd : o.guard = none) (ho : o.op = .call { callee := .value (.func k), args := xs, argTypes := ts }) (hd : o.dst = some n)
    (hx : xs.toList.map a.eval = vs.toList) (he : Enters Tryd.prog k) (C : Calls Tryd.prog k vs w R) (hK : ∀ e w', R e w' → ∃ v, e = .returned v ∧ K (a.put (some n) v) w') : if Region.wanted o (yielded ops a.tmps) = true then Oper.wp Tryd.prog o a w K Q else E := by
  have hw : Region.wanted o (yielded ops a.tmps) = true := by simp [Region.wanted, hgd]
  rw [if_pos hw]
  have hrun : (execOp a.eval o).run Tryd.prog w = .ok (.enter k vs) w := by
    obtain rfl : xs.map a.eval = vs := by apply Array.toList_inj.1; simpa using hx
    simp [execOp, ho, resolve, invoke, go_sem]
    exact he _ _
  unfold Oper.wp
  rw [hrun]
  simp only [Oper.upon]
  refine C.mono fun e w' hR => ?_
  obtain ⟨v, rfl, hk⟩ := hK e w' hR
  rw [hd]
  exact hk
end
section
variable {o : Oper} {a : Act} {w : World}
theorem ev_slice_to (x y : Operand) (b ofs len cap K : Nat) (ho : o.op = .slice 26 x none (some y) none) (hx : a.eval x = .slice (some ⟨b, ofs, none⟩) len cap) (hy : a.eval y = .int .i64 K) (hk : K ≤ cap) :
    (execOp a.eval o).run Tryd.prog w = .ok (.value (.slice (some ⟨b, ofs, none⟩) K cap)) w := by
  have b1 : (K : Int) ≤ cap := by omega
  unfold execOp
  simp only [ho, hx, hy, Option.map]
  go_simp
theorem ev_slice_from (x y : Operand) (b ofs len cap K : Nat) (ho : o.op = .slice 26 x (some y) none none) (hx : a.eval x = .slice (some ⟨b, ofs, none⟩) len cap) (hy : a.eval y = .int .i64 K) (hk : K ≤ len) (hc : len ≤ cap) (hkc : K < cap) :
    (execOp a.eval o).run Tryd.prog w = .ok (.value (.slice (some ⟨b, ofs + K * 32, none⟩) (len - K) (cap - K))) w := by
  have b1 : (K : Int) ≤ len := by omega
  have b2 : (len : Int) ≤ cap := by omega
  have b3 : ¬ cap = K := by omega
  unfold execOp
  simp only [ho, hx, hy, Option.map]
  go_simp
theorem ev_index (x y : Operand) (b ofs len cap K : Nat) (ho : o.op = .indexAddr 26 x y) (hx : a.eval x = .slice (some ⟨b, ofs, none⟩) len cap) (hy : a.eval y = .int .i64 K) (hk : K < len) :
    (execOp a.eval o).run Tryd.prog w = .ok (.value (.pointer (some ⟨b, ofs + K * 32, none⟩))) w := by
  have b1 : (K : Int) < len := by omega
  have b2 : (0 : Int) ≤ K := by omega
  unfold execOp
  simp only [ho, hx, hy]
  go_simp
theorem ev_sub (x y : Operand) (p q : Int) (ho : o.op = .binOp .sub 3 x y 3) (hx : a.eval x = .int .i64 p) (hy : a.eval y = .int .i64 q) (h1 : -9223372036854775808 ≤ p - q) (h2 : p - q ≤ 9223372036854775807) :
    (execOp a.eval o).run Tryd.prog w = .ok (.value (.int .i64 (p - q))) w := by
  have hw : IntKind.i64.wrap (p - q) = p - q := IntWalk.i64_in _ ⟨h1, h2⟩
  unfold execOp
  simp only [ho, hx, hy]
  go_simp
end
section
variable {ops : Array Oper} {o : Oper} {a : Act} {K : Act → World → Prop} {Q : Exit → Act → World → Prop} {E : Prop} {w : World}
theorem to_app (n : Nat) (s x : Operand) (hgd : o.guard = none) (ho : o.op = .call { callee := .builtin .append, args := #[s, x], argTypes := #[26, 26] }) (hdst : o.dst = some n)
    (base : Nat) (v : Value) (S : Nat → Prop) (L P : List (List UInt8)) (A : Option Addr) (cap : Nat) (hs : a.eval s = v) (hx : a.eval x = .slice A P.length cap) (hown : OwnD w base v L) (hsrc : DL w S P A cap)
    (hlen : L.length + P.length ≤ 1099511627776) (hbase : base ≤ w.heap.size)
    (h : ∀ A' c' w', OwnD w' base (.slice A' (L.length + P.length) c') (L ++ P) → w.grownBy w' v.ownBlock → ((Value.slice A' (L.length + P.length) c').ownBlock = v.ownBlock ∨ (Value.slice A' (L.length + P.length) c').ownBlock = some w.heap.size) → K (a.put (some n) (.slice A' (L.length + P.length) c')) w') :
    if Region.wanted o (yielded ops a.tmps) = true then Oper.wp Tryd.prog o a w K Q else E := by
  have hw : Region.wanted o (yielded ops a.tmps) = true := by simp [Region.wanted, hgd]
  rw [if_pos hw]
  obtain ⟨i, hi, hz0, hz1, hz2⟩ := info_parts info_d
  have done : ∀ v' w', OwnD w' base v' (L ++ P) → w.grownBy w' v.ownBlock → (v'.ownBlock = v.ownBlock ∨ v'.ownBlock = some w.heap.size) → K (a.put (some n) v') w' := fun v' w' h1 h2 h3 => by
    obtain ⟨A', c', e⟩ := h1.slice
    rw [List.length_append] at e
    subst e
    exact h A' c' w' h1 h2 h3
  rcases A with _ | ad
  · obtain rfl := hsrc.2.2.1 rfl
    have h0 := hsrc.1
    obtain rfl : P = [] := List.eq_nil_of_length_eq_zero (by omega)
    have hrun := run_append_owned_none (P := Tryd.prog) (w := w) base 26 o.type 23 i 32 Tryd.underlying26 hi v L.length (L.flatMap U) hown.1
    have hx' : a.eval x = .slice none 0 0 := hx
    have := done v w (by rw [List.append_nil]; exact hown) ⟨rfl, rfl, rfl, Nat.le_refl _, fun _ _ _ => rfl⟩ (.inl rfl)
    unfold Oper.wp
    simp [execOp, ho, resolve, invoke, builtin, hs, hx', hrun, Result.andThen]
    show K (a.put o.dst _) _
    rw [hdst]
    exact this
  · obtain ⟨v', w', hrun, h1, h2, _, h4⟩ := run_append_own_at (P := Tryd.prog) (w := w) base 26 o.type 23 i (.agg (U z32).toArray) 32 32 Tryd.underlying26 hi hz0 hz1 hz2 rfl (by omega) v L.length (L.flatMap U) hown.1
      ad P.length cap (P.flatMap U) (flat_len P hsrc.2.2.2.1) (fun j u hu => by
        obtain ⟨k, d, e1, e2, e3⟩ := flat_idx P j u hsrc.2.2.2.1 hu
        have hp : 0 < P.length := by have := (List.getElem?_eq_some_iff.1 e1).1; omega
        obtain ⟨b, ofs, e, _, hc⟩ := hsrc.2.2.2.2 hp
        injection e with e
        subst e
        rw [Go.WideShapes.add_plain]
        have := hc k d e1 _ u e2
        rwa [show ofs + k * 32 + (j - k * 32) = ofs + j by omega] at this)
      (fun u hu => by
        obtain ⟨d, _, hud⟩ := List.mem_flatMap.1 hu
        exact U_one d u hud) (by simp only [maxLen]; omega) (by omega) hbase
    have h1' : OwnD w' base v' (L ++ P) := by
      refine ⟨?_, fun c hc => ?_⟩
      · rw [List.length_append, List.flatMap_append]
        exact h1
      · rcases List.mem_append.1 hc with hc | hc
        · exact hown.2 c hc
        · exact hsrc.2.2.2.1 c hc
    have := done v' w' h1' h2 h4
    unfold Oper.wp
    simp [execOp, ho, resolve, invoke, builtin, hs, hx, hrun, Result.andThen]
    show K (a.put o.dst _) _
    rw [hdst]
    exact this
theorem to_bs0 (n : Nat) (hgd : o.guard = none) (ho : o.op = .buildSlice 26 0 #[]) (hd : o.dst = some n)
    (hK : K (a.put (some n) (.slice (some ⟨w.heap.size, 0, none⟩) 0 0)) (w.alloc (.cells #[] 23))) : if Region.wanted o (yielded ops a.tmps) = true then Oper.wp Tryd.prog o a w K Q else E := by
  have hw : Region.wanted o (yielded ops a.tmps) = true := by simp [Region.wanted, hgd]
  rw [if_pos hw]
  unfold Oper.wp execOp
  simp only [ho]
  go_simp
  exact hK
theorem to_bs1 (n : Nat) (x : Operand) (d : List UInt8) (hgd : o.guard = none) (ho : o.op = .buildSlice 26 1 #[(0, x)]) (hdst : o.dst = some n) (hx : a.eval x = .agg (U d).toArray) (hd : d.length = 32)
    (hK : K (a.put (some n) (.slice (some ⟨w.heap.size, 0, none⟩) 1 1)) (w.alloc (.cells (U d).toArray 23))) : if Region.wanted o (yielded ops a.tmps) = true then Oper.wp Tryd.prog o a w K Q else E := by
  have hw : Region.wanted o (yielded ops a.tmps) = true := by simp [Region.wanted, hgd]
  rw [if_pos hw]
  have hrun := run_bs d hd w
  unfold Oper.wp
  simp [execOp, ho, hx, hrun, Result.andThen]
  show K (a.put o.dst _) _
  rw [hdst]
  exact hK
theorem to_alloc (n : Nat) (hgd : o.guard = none) (ho : o.op = .alloc 23) (hd : o.dst = some n)
    (hK : K (a.put (some n) (.pointer (some ⟨w.heap.size, 0, none⟩))) (w.alloc (.cells (U (flb 32 [])).toArray 23))) : if Region.wanted o (yielded ops a.tmps) = true then Oper.wp Tryd.prog o a w K Q else E :=
  step_alloc_B hgd ho (by rw [hd]; exact hK)
theorem to_store (x y : Operand) (hgd : o.guard = none) (ho : o.op = .store 23 x y) (hd : o.dst = none)
    (g : Nat) (l l' : List UInt8) (hx : a.eval x = .pointer (some ⟨g, 0, none⟩)) (hy : a.eval y = .agg (U l').toArray) (h : RowB w g 23 l) (hl : l.length = 32) (hl' : l'.length = 32)
    (hK : K a (w.setRow g (U l').toArray)) : if Region.wanted o (yielded ops a.tmps) = true then Oper.wp Tryd.prog o a w K Q else E :=
  step_store_B hgd x y ho g l l' hx hy h hl hl' (by rw [hd]; exact hK)
end

section
variable {md : Region.Mode} {ops : Array Oper} {Q : Exit → Act → World → Prop} {S : World → Prop} {fuel : Nat} {listed : Array Bool} {a : Act} {w : World}
theorem tk_assign (i n : Nat) (x : Operand) (v : Value) {oi : Oper} (hi : ops[i]? = some oi)
    (hs : Region.noSelect ops = true) (hf : Region.free md ops listed i = true) (hr : (Region.ready md ops listed).contains i = true) (hQ : ∀ c a v w, Q (.panic c) (a.put (some n) v) w → Q (.panic c) a w)
    (hg : oi.guard = none) (ho : oi.op = .assign x) (hd : oi.dst = some n) (hx : a.eval x = v) (h0 : S w)
    (h : wpAnyH Tryd.prog md ops Q S fuel (listed.setIfInBounds i true) (a.put (some n) v) w) : wpAnyH Tryd.prog md ops Q S (fuel + 1) listed a w :=
  tk_val i n v hi hs hf hr hQ hg hd (fun w _ => by subst hx; simp [execOp, ho]) h0 h
end
theorem ev_len {o : Oper} {a : Act} {w : World} (x : Operand) (A : Option Addr) (n cap : Nat) (ho : o.op = .call { callee := .builtin .len, args := #[x], argTypes := #[26] }) (hx : a.eval x = .slice A n cap) :
    (execOp a.eval o).run Tryd.prog w = .ok (.value (.int .i64 n)) w := by
  unfold execOp
  simp [ho, hx, resolve, invoke, builtin]
  go_simp
theorem ev_extract {o : Oper} {a : Act} {w : World} (x : Operand) (k : Nat) (vs : Array Value) (v : Value) (ho : o.op = .extract x k) (hx : a.eval x = .tuple vs) (hk : vs[k]? = some v) :
    (execOp a.eval o).run Tryd.prog w = .ok (.value v) w := by
  unfold execOp
  simp [ho, hx, Instr.extract, hk]

theorem apart_app {v v' : Value} {w : World} {g : Nat} (hn : v.ownBlock ≠ some g) (hat : v'.ownBlock = v.ownBlock ∨ v'.ownBlock = some w.heap.size) (hg : g < w.heap.size) : v'.ownBlock ≠ some g := by
  rcases hat with h | h
  · rw [h]; exact hn
  · rw [h]; intro e; injection e with e; omega
theorem apart_new {w : World} {b : Nat} {v : Value} {L : List (List UInt8)} (h : OwnD w b v L) : v.ownBlock ≠ some w.heap.size := fun e => by
  have := (World.ownsRow.lt h.1 _ e).2
  omega
theorem nilD (w : World) : OwnD (w.alloc (.cells #[] 23)) w.heap.size (.slice (some ⟨w.heap.size, 0, none⟩) 0 0) [] := ownD_empty w
section
variable {ops : Array Oper} {o : Oper} {a : Act} {K : Act → World → Prop} {Q : Exit → Act → World → Prop} {E : Prop} {w : World}
theorem wp_bs0b (n : Nat) (ho : o.op = .buildSlice 62 0 #[]) (hd : o.dst = some n)
    (hK : K (a.put (some n) (.slice (some ⟨w.heap.size, 0, none⟩) 0 0)) (w.alloc (.cells #[] 5))) : Oper.wp Tryd.prog o a w K Q := by
  unfold Oper.wp execOp
  simp only [ho]
  go_simp
  exact hK
theorem wp_call (k : Nat) (n : Nat) (xs : Array Operand) (ts : Array TypeId) (vs : Array Value) (R : Ending → World → Prop) (ho : o.op = .call { callee := .value (.func k), args := xs, argTypes := ts }) (hd : o.dst = some n)
    (hx : xs.toList.map a.eval = vs.toList) (he : Enters Tryd.prog k) (C : Calls Tryd.prog k vs w R) (hK : ∀ e w', R e w' → ∃ v, e = .returned v ∧ K (a.put (some n) v) w') : Oper.wp Tryd.prog o a w K Q := by
  have hrun : (execOp a.eval o).run Tryd.prog w = .ok (.enter k vs) w := by
    obtain rfl : xs.map a.eval = vs := by apply Array.toList_inj.1; simpa using hx
    simp [execOp, ho, resolve, invoke, go_sem]
    exact he _ _
  unfold Oper.wp
  rw [hrun]
  simp only [Oper.upon]
  refine C.mono fun e w' hR => ?_
  obtain ⟨v, rfl, hk⟩ := hK e w' hR
  rw [hd]
  exact hk
end
section
variable {md : Region.Mode} {ops : Array Oper} {Q : Exit → Act → World → Prop} {S : World → Prop} {fuel : Nat} {listed : Array Bool} {a : Act} {w : World}
theorem tkw_val (i n : Nat) (v : Value) {oi : Oper} (hi : ops[i]? = some oi)
    (hs : Region.noSelect ops = true) (hf : Region.free md ops listed i = true) (hr : (Region.ready md ops listed).contains i = true) (hQ : ∀ c a v w, Q (.panic c) (a.put (some n) v) w → Q (.panic c) a w)
    (hw : Region.wanted oi (yielded ops a.tmps) = true) (hd : oi.dst = some n) (hy : ∀ w, S w → (execOp a.eval oi).run Tryd.prog w = .ok (.value v) w) (h0 : S w)
    (h : wpAnyH Tryd.prog md ops Q S fuel (listed.setIfInBounds i true) (a.put (some n) v) w) : wpAnyH Tryd.prog md ops Q S (fuel + 1) listed a w :=
  wpAnyH_take (i := i) (oi := oi) (v := v) hi hs hf hr (fun c a w hq => hQ c a _ w (by rw [hd] at hq; exact hq)) (.inl ⟨hw, hy⟩) h0 (by rw [hd]; exact h)
theorem tkw_load (i n : Nat) (x : Operand) (b ofs : Nat) (l : List UInt8) {oi : Oper} (hi : ops[i]? = some oi)
    (hs : Region.noSelect ops = true) (hf : Region.free md ops listed i = true) (hr : (Region.ready md ops listed).contains i = true) (hQ : ∀ c a v w, Q (.panic c) (a.put (some n) v) w → Q (.panic c) a w)
    (hw : Region.wanted oi (yielded ops a.tmps) = true) (ho : oi.op = .load 23 x) (hd : oi.dst = some n) (hx : a.eval x = .pointer (some ⟨b, ofs, none⟩)) (hS : ∀ w, S w → w.rangeAt b ofs (U l)) (hl : l.length = 32) (h0 : S w)
    (h : wpAnyH Tryd.prog md ops Q S fuel (listed.setIfInBounds i true) (a.put (some n) (.agg (U l).toArray)) w) : wpAnyH Tryd.prog md ops Q S (fuel + 1) listed a w :=
  wpAnyH_take (i := i) (oi := oi) (v := .agg (U l).toArray) hi hs hf hr (fun c a w hq => hQ c a _ w (by rw [hd] at hq; exact hq))
    (yieldsIf_load_mid hw _ x ho b ofs hx (U l) _ hS Tryd.underlying23 rfl (by rw [sz32, U_length, hl])) h0 (by rw [hd]; exact h)
end
section
variable {o : Oper} {a : Act} {w : World}
theorem ev_neq (x y : Operand) (l : List UInt8) (hl : l.length = 32) (ho : o.op = .binOp .neq 23 x y 23) (hx : a.eval x = .agg (U l).toArray) (hy : a.eval y = .agg (U l).toArray) :
    (execOp a.eval o).run Tryd.prog w = .ok (.value (.bool false)) w := by
  have q1 := eq_self l hl
  unfold execOp
  simp only [ho, hx, hy]
  go_simp
theorem ev_neqi (t : TypeId) (x y : Operand) (n : Int) (ho : o.op = .binOp .neq t x y t) (_ht : Tryd.prog.underlying t = some (.int .i64)) (hx : a.eval x = .int .i64 n) (hy : a.eval y = .int .i64 n) :
    (execOp a.eval o).run Tryd.prog w = .ok (.value (.bool false)) w := by
  unfold execOp
  simp only [ho, hx, hy]
  go_simp
theorem ev_arr (x : Operand) (g : Nat) (ho : o.op = .slice 23 x none none none) (hx : a.eval x = .pointer (some ⟨g, 0, none⟩)) :
    (execOp a.eval o).run Tryd.prog w = .ok (.value (.slice (some ⟨g, 0, none⟩) 32 32)) w := by
  unfold execOp
  simp only [ho, hx, Option.map]
  go_simp
theorem ev_pick (c x y : Operand) (ho : o.op = .pick c x y) (hc : a.eval c = .bool false) (hy : a.eval y = .bool false) :
    (execOp a.eval o).run Tryd.prog w = .ok (.value (.bool false)) w := by
  unfold execOp
  simp only [ho, hc, hy]
  go_simp
theorem ev_move (x : Operand) (v : Value) (ho : o.op = .move x) (hx : a.eval x = v) :
    (execOp a.eval o).run Tryd.prog w = .ok (.value v) w := by
  subst hx
  simp [execOp, ho]
end
end
end Go.Proofs.YteicbdjennjcdaaDoor
