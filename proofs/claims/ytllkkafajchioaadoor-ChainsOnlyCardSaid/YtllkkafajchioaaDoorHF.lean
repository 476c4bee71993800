/- Digest: the end of the padded bytes. -/
import Derived.Test.YtllkkafajchioaaDoorHB
import Derived.Laws.AppendOwnNone
namespace Go.Proofs.YtllkkafajchioaaDoor
open Go.RowKit

theorem U_one (l : List UInt8) : ∀ u ∈ U l, u.oneCell' = true := by
  intro u hu
  simp only [U, List.mem_map] at hu
  obtain ⟨b, _, rfl⟩ := hu
  rfl

/-- a slice of bytes of the call's own -/
def Own (w : World) (base : Nat) (v : Value) (l : List UInt8) : Prop := w.ownsRow base 5 1 v l.length (U l)
theorem info_u8 : (Tryd.prog.info? 5).map (fun i => (i.zero, i.size, i.bytes)) = some (some (.int .u8 0), 1, 1) := by kernel_rfl

theorem Own.base {w : World} {b b' : Nat} {v : Value} {l : List UInt8} (h : Own w b v l) (hb : b' ≤ b) : Own w b' v l := by
  refine ⟨h.1, ?_⟩
  rcases h.2 with h | ⟨g, cap, cur, e, hg, r⟩
  · exact .inl h
  · exact .inr ⟨g, cap, cur, e, by omega, r⟩
theorem Own.kept {w w' : World} {b : Nat} {v : Value} {l : List UInt8} (h : Own w b v l) (hk : ∀ g, v.ownBlock = some g → w'.heap[g]? = w.heap[g]?) : Own w' b v l := by
  refine ⟨h.1, ?_⟩
  rcases h.2 with h | ⟨g, cap, cur, e, hg, hh, r⟩
  · exact .inl h
  · exact .inr ⟨g, cap, cur, e, hg, by rw [hk g (by rw [e]; rfl)]; exact hh, r⟩
theorem Own.below {w w' : World} {b B : Nat} {v : Value} {l : List UInt8} (h : Own w b v l) (hb : Below B w w') (hB : w.heap.size ≤ B) : Own w' b v l :=
  h.kept fun g hg => hb.block g (by have := (World.ownsRow.lt h g hg).2; omega)
theorem own_one (w : World) (b : UInt8) (n : Int) (hn : n = b.toNat) : Own (w.alloc (.cells #[.int .u8 n] 5)) w.heap.size (.slice (some ⟨w.heap.size, 0, none⟩) 1 1) [b] := by
  subst hn
  exact ⟨by simp [U], .inr ⟨w.heap.size, 1, #[.int .u8 (b.toNat : Int)], rfl, Nat.le_refl _, heap_alloc_new w _, Nat.le_refl _, by simp [maxLen], rfl, rfl⟩⟩
theorem own_row (w : World) (c : Array Value) (n : Nat) (hn : c.size = n) (hm : n ≤ maxLen) : Own (w.alloc (.cells c 5)) w.heap.size (.slice (some ⟨w.heap.size, 0, none⟩) 0 n) [] :=
  ⟨by simp [U], .inr ⟨w.heap.size, n, c, rfl, Nat.le_refl _, heap_alloc_new w _, Nat.zero_le _, hm, by omega, by simp [U]⟩⟩
theorem Own.nil (w : World) (b : Nat) : Own w b (.slice none 0 0) [] := World.ownsRow_nil _ _ _ _
/-- an own slice of bytes, read -/
theorem Own.byt {w : World} {b : Nat} {v : Value} {l : List UInt8} (h : Own w b v l) : ∃ A cap, v = .slice A l.length cap ∧ Byt w (fun i => b ≤ i ∧ i < w.heap.size) l A cap := by
  have hcs : ∀ g, v.ownBlock = some g → ∀ j u, (U l)[j]? = some u → w.cell? ((⟨g, 0, none⟩ : Addr).add j) = some u := fun g hg => World.ownsRow.cells h hg
  rcases h.2 with ⟨rfl, h0⟩ | ⟨g, cap, cur, rfl, hb, hh, h1, h2, _⟩
  · exact ⟨none, 0, by rw [h0], by omega, Nat.zero_le _, fun _ => rfl, fun hp => by omega⟩
  · refine ⟨some ⟨g, 0, none⟩, cap, rfl, h1, h2, (fun e => by cases e), fun _ => ⟨g, 0, rfl, ⟨hb, (Array.getElem?_eq_some_iff.1 hh).1⟩, fun i u hu => ?_⟩⟩
    have := hcs g rfl i u hu
    rwa [Go.WideShapes.add_plain] at this
theorem Own.slice {w : World} {b : Nat} {v : Value} {l : List UInt8} (h : Own w b v l) : ∃ A cap, v = .slice A l.length cap := by
  obtain ⟨A, cap, e, _⟩ := h.byt
  exact ⟨A, cap, e⟩
theorem below_own {B b : Nat} {a w w' : World} {v : Value} {l : List UInt8} (h : Below B a w) (hg : w.grownBy w' v.ownBlock) (ho : Own w b v l) (hb : B ≤ b) (hs : B ≤ w.heap.size) : Below B a w' :=
  h.grown hg hs fun k hk => by have := (World.ownsRow.lt ho k hk).1; omega

/-- append of bytes onto an own slice of bytes -/
theorem app_byt {ops : Array Oper} {rest : List Oper} {o : Oper} {a : Act} {Q : Exit → Act → World → Prop} {w : World} (hgd : o.guard = none) (s x : Operand)
    (ho : o.op = .call { callee := .builtin .append, args := #[s, x], argTypes := #[41, 41] })
    (base : Nat) (v : Value) (S : Nat → Prop) (A : Option Addr) (cap : Nat) (l l2 : List UInt8) (hs : a.eval s = v) (hx : a.eval x = .slice A l2.length cap) (hown : Own w base v l) (hsrc : Byt w S l2 A cap)
    (hlen : l.length + l2.length ≤ 140737488355328) (hbase : base ≤ w.heap.size)
    (h : ∀ v' w', Own w' base v' (l ++ l2) → w.grownBy w' v.ownBlock → wpList Tryd.prog ops Q rest (a.put o.dst v') w') : wpList Tryd.prog ops Q (o :: rest) a w := by
  obtain ⟨i, hi, hz0, hz1, hz2⟩ := info_parts info_u8
  rcases A with _ | ad
  · obtain rfl := hsrc.2.2.1 rfl
    have h0 := hsrc.1
    obtain rfl : l2 = [] := List.eq_nil_of_length_eq_zero (by omega)
    refine wpList_append_own_none hgd s x 41 ho base 5 i 1 Tryd.underlying41 hi v l.length (U l) hs hown hx ?_
    exact h v w (by rw [List.append_nil]; exact hown) ⟨rfl, rfl, rfl, Nat.le_refl _, fun _ _ _ => rfl⟩
  · refine wpList_append_own _ hgd s x 41 ho base 5 i (.int .u8 0) 1 1 Tryd.underlying41 hi hz0 hz1 hz2 rfl (by omega) v l.length (U l) hs hown ad l2.length cap (U l2)
      hx (by rw [U_length, Nat.mul_one]) (fun j u hu => ?_) (U_one l2) (by simp only [maxLen]; omega) (by omega) hbase ?_
    · have hj : j < l2.length := by
        by_cases h : j < l2.length
        · exact h
        · rw [List.getElem?_eq_none (by rw [U_length]; omega)] at hu; cases hu
      obtain ⟨b, o, e, _, hc⟩ := hsrc.2.2.2 (by omega)
      injection e with e
      subst e
      have hadd : (⟨b, o, none⟩ : Addr).add j = ⟨b, o + j, none⟩ := Go.WideShapes.add_plain _ _ _
      rw [hadd]
      exact hc j u hu
    · intro v' w' h1 h2 _
      refine h v' w' ?_ h2
      unfold Own
      rw [List.length_append, U_append]
      exact h1

/-- how many zeros behind n bytes and the byte 80 -/
def kpad (n : Nat) : Nat := (119 - n % 64) % 64
theorem kpad_eq (n : Nat) : (n + 1 + kpad n) % 64 = 56 := by unfold kpad; omega
theorem kpad_lt (n k : Nat) (h : k < kpad n) : (n + 1 + k) % 64 ≠ 56 := by unfold kpad at h; omega
theorem kpad_bd (n : Nat) : kpad n < 64 := Nat.mod_lt _ (by omega)
/-- byte i of the number of bits -/
def cby (many i : Nat) : UInt8 := UInt8.ofNat (many * 8 % 18446744073709551616 / 2 ^ (56 - 8 * i))
def cbs (many n : Nat) : List UInt8 := (List.range n).map (cby many)
theorem cbs_succ (many n : Nat) : cbs many (n + 1) = cbs many n ++ [cby many n] := by simp [cbs, List.range_succ]
/-- what comes behind the whole blocks -/
def padend (rest : List UInt8) (many : Nat) : List UInt8 := rest ++ [0x80] ++ List.replicate (kpad rest.length) 0 ++ cbs many 8
theorem padend_len (rest : List UInt8) (many : Nat) : (padend rest many).length = rest.length + 1 + kpad rest.length + 8 := by simp [padend, cbs]; omega

theorem cby_eq (many j : Nat) : IntKind.u64.wrap ((many : Int) * 8) / 2 ^ (56 - 8 * j) % 256 = ((cby many j).toNat : Int) := by
  rw [IntKind.wrap_u64, cby, UInt8.toNat_ofNat', Int.natCast_emod, Int.natCast_ediv, Int.natCast_emod, Int.natCast_mul, Int.natCast_pow]
  rfl
def slen : Value → Nat
  | .slice _ n _ => n
  | _ => 0

theorem make0 {ops : Array Oper} {rest : List Oper} {o : Oper} {a : Act} {Q : Exit → Act → World → Prop} {w : World} (hgd : o.guard = none) (l c : Operand) (ho : o.op = Op.makeSlice 41 l c)
    (C : Int) (n : Nat) (hl : a.eval l = .int .i64 0) (hc : a.eval c = .int .i64 C) (hC : C = (n : Int)) (hn : n ≤ 140737488355328)
    (h : ∀ w', Own w' w.heap.size (.slice (some ⟨w.heap.size, 0, none⟩) 0 n) [] → Below w.heap.size w w' → wpList Tryd.prog ops Q rest (a.put o.dst (.slice (some ⟨w.heap.size, 0, none⟩) 0 n)) w') : wpList Tryd.prog ops Q (o :: rest) a w := by
  obtain ⟨i, hi, hz0, hz1, hz2⟩ := info_parts info_u8
  refine wpList_make_own w hgd l c 41 ho w.heap.size 5 i (.int .u8 0) 1 Tryd.underlying41 hi hz0 hz1 .i64 .i64 C n hl hc hC (by rw [hz2]; omega) (by simp only [maxLen]; omega) (Nat.le_refl _) ?_
  intro w' h1 h2
  exact h w' h1 ((Below.refl _ _).grown h2 (Nat.le_refl _) (fun k hk => by cases hk))
theorem byt_one (w : World) (b : UInt8) (n : Int) (hn : n = b.toNat) : Byt (w.alloc (.cells #[.int .u8 n] 5)) (· < w.heap.size + 1) [b] (some ⟨w.heap.size, 0, none⟩) 1 := by
  obtain ⟨A, cap, e, h⟩ := (own_one w b n hn).byt
  injection e with e1 e2 e3
  subst e1 e3
  exact h.keep fun i hi => ⟨by have := hi.2; simpa using this, rfl⟩

set_option maxRecDepth 100000 in
set_option maxHeartbeats 1600000 in
theorem ending_all (rest : List UInt8) (A : Option Addr) (cap many : Nat) (w : World) (hl : Byt w (· < w.heap.size) rest A cap) (hr : rest.length < 64) (hmany : many < 9223372036854775808) :
    Calls Tryd.prog 48 #[.slice A rest.length cap, .int .i64 many] w fun e w' => ∃ v, e = .returned v ∧ Own w' w.heap.size v (padend rest many) ∧ Below w.heap.size w w' := by
  have HL := Lib.hid hl
  clear hl
  go_enter Tryd.func48, Tryd.ntmps48
  go_wp2_with (first
    | (refine make0 rfl _ _ rfl 128 128 rfl rfl rfl (by omega) ?_; intro w1 ho1 hb1; have HO1 := Lib.hid ho1; have HB1 := Lib.hid hb1; have HS1 := Lib.hid (HL.out.keep (w' := w1) (S' := (· < w.heap.size)) fun i hi => ⟨hi, hb1.block i hi⟩); have hz1 := hb1.size; clear ho1 hb1)
    | (at_builtin; refine app_byt rfl (.tmp 8) (.tmp 9) rfl w.heap.size _ _ _ _ [] rest rfl rfl HO1.out HS1.out (by simp; omega) hz1 ?_; intro v2 w2 ho2 hg2; rw [List.nil_append] at ho2; obtain ⟨A2, c2, e2⟩ := ho2.slice; subst e2; have HO2 := Lib.hid (show Own (w2.alloc (.cells #[.int .u8 128] 5)) w.heap.size (.slice A2 rest.length c2) rest from World.ownsRow.alloc ho2 _); have HB2 := Lib.hid (below_own HB1.out hg2 HO1.out (Nat.le_refl _) hz1); have hz2 := HB2.out.size; clear ho2 hg2)
    | (at_builtin; refine app_byt rfl (.tmp 11) (.tmp 12) rfl w.heap.size _ _ _ _ rest [0x80] rfl rfl HO2.out (byt_one w2 0x80 128 rfl) (by simp; omega) (by simp; omega) ?_; intro v3 w3 ho3 hg3; obtain ⟨A3, c3, e3⟩ := ho3.slice; subst e3; have HO3 := Lib.hid ho3; have HB3 := Lib.hid (below_own (HB2.out.alloc hz2 _) hg3 HO2.out (Nat.le_refl _) (by simp; omega)); clear ho3 hg3))
  have hbd := kpad_bd rest.length
  go_loopw [4] (fun x wr => ∃ (k : Nat) (L : List UInt8) (A4 : Option Addr) (c4 : Nat), x = .slice A4 L.length c4 ∧ L.length = rest.length + 1 + k ∧ L = rest ++ [0x80] ++ List.replicate k 0 ∧ k ≤ kpad rest.length ∧ Own wr w.heap.size (.slice A4 L.length c4) L ∧ Below w.heap.size w wr) (fun x _ => 200 - slen x)
  case atStart => exact ⟨0, rest ++ [0x80], A3, c3, by simp, by simp, by simp, by omega, HO3.out, HB3.out⟩
  case round =>
    obtain ⟨k, L, A4, c4, rfl, hlen, hL, hk, ho, hb⟩ := hrel
    have HL4 := Lib.hid hL
    have HLEN := Lib.hid hlen
    have HO := Lib.hid ho
    have HB := Lib.hid hb
    have hz := hb.size
    by_cases hlt : k < kpad rest.length
    · have hne := kpad_lt _ _ hlt
      rw [← hlen] at hne
      have hne' : ((L.length : Int) % 64 != 56) = true := by
        have : ¬ ((L.length : Int) % 64 = 56) := by omega
        simpa using this
      have HOA := Lib.hid (show Own (wr.alloc (.cells #[.int .u8 0] 5)) w.heap.size (.slice A4 L.length c4) L from World.ownsRow.alloc ho _)
      have hbdl : L.length ≤ 150 := by omega
      clear ho hb hL hlen hne
      go_wp2_with (at_builtin; refine app_byt rfl (.tmp 18) (.tmp 19) rfl w.heap.size _ _ _ _ L [0] rfl rfl HOA.out (byt_one wr 0 0 rfl) (by simp; omega) (by simp; omega) ?_; intro v5 w5 ho5 hg5; obtain ⟨A5, c5, e5⟩ := ho5.slice; subst e5; have HO5 := Lib.hid ho5; have HB5 := Lib.hid (below_own (HB.out.alloc hz _) hg5 HOA.out (Nat.le_refl _) (by simp; omega)); clear ho5 hg5)
      go_roundw
      case rel =>
        refine ⟨k + 1, L ++ [0], A5, c5, by simp, by simp [HLEN.out]; omega, ?_, by omega, HO5.out, HB5.out⟩
        rw [HL4.out, List.replicate_succ', ← List.append_assoc]
      case measure => simp [slen]; omega
    · obtain rfl : k = kpad rest.length := by omega
      have he := kpad_eq rest.length
      rw [← hlen] at he
      have hne' : ((L.length : Int) % 64 != 56) = false := by
        have : ((L.length : Int) % 64 = 56) := by omega
        simp [this]
      have hbdl : L.length ≤ 150 := by omega
      clear ho hb hL hlen he
      go_wp2_with fail
      go_loopw [4, 24] (fun x i wr => ∃ (j : Nat) (M : List UInt8) (A6 : Option Addr) (c6 : Nat), x = .slice A6 M.length c6 ∧ i = .int .i64 j ∧ j ≤ 8 ∧ M.length = L.length + j ∧ M = L ++ cbs many j ∧ Own wr w.heap.size (.slice A6 M.length c6) M ∧ Below w.heap.size w wr) (fun _ i _ => 8 - (intOf i).toNat)
      case atStart => exact ⟨0, L, A4, c4, rfl, rfl, by omega, rfl, by simp [cbs], HO.out, HB.out⟩
      case round =>
        obtain ⟨j, M, A6, c6, rfl, rfl, hj, hlen, hM, ho, hb⟩ := hrel
        have HM := Lib.hid hM
        have HLEN6 := Lib.hid hlen
        have HO6 := Lib.hid ho
        have HB6 := Lib.hid hb
        have hz6 := hb.size
        have hbd6 : M.length ≤ 160 := by omega
        by_cases hlt : j < 8
        · have hsh : (0 : Int) ≤ 56 - 8 * j := by omega
          have hsw : wrap64 (8 * (j : Int)) = 8 * j := by unfold wrap64; omega
          have HOA := Lib.hid (show Own (wr.alloc (.cells #[.int .u8 (IntKind.u64.wrap ((many : Int) * 8) / 2 ^ (56 - 8 * j) % 256)] 5)) w.heap.size (.slice A6 M.length c6) M from World.ownsRow.alloc ho _)
          have HBO := Lib.hid (byt_one wr (cby many j) _ (cby_eq many j))
          clear ho hb hM hlen
          go_wp2_with (at_builtin; refine app_byt rfl (.tmp 27) (.tmp 34) rfl w.heap.size _ _ _ _ M [cby many j] rfl rfl HOA.out HBO.out (by simp; omega) (by simp; omega) ?_; intro v5 w5 ho5 hg5; obtain ⟨A5, c5, e5⟩ := ho5.slice; subst e5; have HO5 := Lib.hid ho5; have HB5 := Lib.hid (below_own (HB6.out.alloc hz6 _) hg5 HOA.out (Nat.le_refl _) (by simp; omega)); clear ho5 hg5)
          go_roundw
          case rel =>
            refine ⟨j + 1, M ++ [cby many j], A5, c5, by simp, rfl, by omega, by simp [HLEN6.out]; omega, ?_, HO5.out, HB5.out⟩
            rw [cbs_succ, HM.out, List.append_assoc]
          case measure => simp [intOf]; omega
        · obtain rfl : j = 8 := by omega
          clear ho hb hM hlen
          go_wp2_with fail
          go_ret
          refine ⟨_, rfl, ?_, HB6.out⟩
          have h := HO6.out
          rw [HM.out] at h
          rw [padend, ← HL4.out]
          rw [HM.out]
          exact h
end Go.Proofs.YtllkkafajchioaaDoor
