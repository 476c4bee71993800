/- Codec: numerals. -/
import Derived.Test.YtomiacedailmaaaCG
import Derived.Lib.AppendStr
import Derived.Deep.AppendLies
namespace Go.Proofs.Ytomiacedailmaaa
open Go.RowKit

/-- bytes as cells -/
def U (l : List UInt8) : List Value := l.map fun b => Value.int .u8 b.toNat
theorem U_length (l : List UInt8) : (U l).length = l.length := by simp [U]
theorem U_append (l m : List UInt8) : U (l ++ m) = U l ++ U m := by simp [U]
theorem U_one (l : List UInt8) : ∀ u ∈ U l, u.oneCell' = true := by
  intro u hu
  simp only [U, List.mem_map] at hu
  obtain ⟨b, _, rfl⟩ := hu
  rfl
theorem U_byte (n : Nat) (h : n < 256) : U [UInt8.ofNat n] = [.int .u8 (n : Int)] := by
  simp [U, Nat.mod_eq_of_lt h]

/-- a slice of bytes of the call's own -/
def Own (w : World) (base : Nat) (v : Value) (l : List UInt8) : Prop := w.ownsRow base 5 1 v l.length (U l)

theorem info_u8 : (Try.prog.info? 5).map (fun i => (i.zero, i.size, i.bytes)) = some (some (.int .u8 0), 1, 1) := by kernel_rfl

/-- the digits of a number to the base 128 -/
def numf : Nat → Nat → List UInt8
  | 0, _ => []
  | g + 1, u => if u < 128 then [UInt8.ofNat u] else UInt8.ofNat (u % 128 + 128) :: numf g (u / 128)
theorem numf_len (g u : Nat) : (numf g u).length ≤ g := by
  induction g generalizing u with
  | zero => simp [numf]
  | succ g ih =>
    unfold numf
    split
    · simp
    · have := ih (u / 128); simp; omega
theorem numf_pos (g u : Nat) : 0 < (numf (g + 1) u).length := by
  unfold numf
  split <;> simp

theorem Own.base {w : World} {b b' : Nat} {v : Value} {l : List UInt8} (h : Own w b v l) (hb : b' ≤ b) : Own w b' v l := by
  refine ⟨h.1, ?_⟩
  rcases h.2 with h | ⟨g, cap, cur, e, hg, r⟩
  · exact .inl h
  · exact .inr ⟨g, cap, cur, e, by omega, r⟩
theorem Own.kept {w w' : World} {b : Nat} {v : Value} {l : List UInt8} (h : Own w b v l) (hk : ∀ g, v.ownBlock = some g → w'.heap[g]? = w.heap[g]?) : Own w' b v l := by
  refine ⟨h.1, ?_⟩
  rcases h.2 with h | ⟨g, cap, cur, e, hg, hh, r⟩
  · exact .inl h
  · exact .inr ⟨g, cap, cur, e, hg, by rw [hk g (by rw [e]; rfl)]; exact hh, r⟩
theorem Own.below {w w' : World} {b B : Nat} {v : Value} {l : List UInt8} (h : Own w b v l) (hb : Below B w w') (hB : w.heap.size ≤ B) : Own w' b v l :=
  h.kept fun g hg => hb.block g (by have := (World.ownsRow.lt h g hg).2; omega)
theorem own_build (w : World) (n : Nat) (h : n < 256) : Own (w.alloc (.cells #[.int .u8 (n : Int)] 5)) w.heap.size (.slice (some ⟨w.heap.size, 0, none⟩) 1 1) [UInt8.ofNat n] := by
  refine ⟨by simp [U], .inr ⟨w.heap.size, 1, #[.int .u8 (n : Int)], rfl, Nat.le_refl _, heap_alloc_new w _, Nat.le_refl _, by simp [maxLen], rfl, ?_⟩⟩
  rw [U_byte n h]
  rfl
theorem Own.nil (w : World) (b : Nat) : Own w b (.slice none 0 0) [] := World.ownsRow_nil _ _ _ _
/-- where an own slice lies -/
theorem Own.form {w : World} {b : Nat} {v : Value} {l : List UInt8} (h : Own w b v l) (hn : 0 < l.length) :
    ∃ g cap, v = .slice (some ⟨g, 0, none⟩) l.length cap ∧ b ≤ g ∧ g < w.heap.size ∧ l.length ≤ cap ∧ cap ≤ maxLen ∧ ∀ j u, (U l)[j]? = some u → w.cell? ((⟨g, 0, none⟩ : Addr).add j) = some u := by
  have hc : ∀ g, v.ownBlock = some g → ∀ j u, (U l)[j]? = some u → w.cell? ((⟨g, 0, none⟩ : Addr).add j) = some u := fun g hg => World.ownsRow.cells h hg
  rcases h.2 with ⟨_, h0⟩ | ⟨g, cap, cur, e, hg, hh, h1, h2, _⟩
  · omega
  · exact ⟨g, cap, e, hg, (Array.getElem?_eq_some_iff.1 hh).1, h1, h2, hc g (by rw [e]; rfl)⟩

/-- append of an own slice of bytes onto another one -/
theorem app_own {ops : Array Oper} {rest : List Oper} {o : Oper} {a : Act} {Q : Exit → Act → World → Prop} {w : World} (hgd : o.guard = none) (s x : Operand)
    (ho : o.op = .call { callee := .builtin .append, args := #[s, x], argTypes := #[27, 27] })
    (base b2 : Nat) (v v2 : Value) (l l2 : List UInt8) (hs : a.eval s = v) (hx : a.eval x = v2) (hown : Own w base v l) (hsrc : Own w b2 v2 l2) (hpos : 0 < l2.length)
    (hlen : l.length + l2.length ≤ 140737488355328) (hbase : base ≤ w.heap.size)
    (h : ∀ v' w', Own w' base v' (l ++ l2) → w.grownBy w' v.ownBlock → wpList Try.prog ops Q rest (a.put o.dst v') w') : wpList Try.prog ops Q (o :: rest) a w := by
  obtain ⟨i, hi, hz0, hz1, hz2⟩ := info_parts info_u8
  obtain ⟨g, cap, e, _, _, _, _, hc⟩ := hsrc.form hpos
  refine wpList_append_own _ hgd s x 27 ho base 5 i (.int .u8 0) 1 1 Try.underlying27 hi hz0 hz1 hz2 rfl (by omega) v l.length (U l) hs hown ⟨g, 0, none⟩ l2.length cap (U l2)
    (by rw [hx, e]) (by rw [U_length, Nat.mul_one]) hc (U_one l2) (by simp only [maxLen]; omega) (by omega) hbase ?_
  intro v' w' h1 h2 _
  refine h v' w' ?_ h2
  unfold Own
  rw [List.length_append, U_append]
  exact h1
/-- append of a string onto an own slice of bytes -/
theorem app_str {ops : Array Oper} {rest : List Oper} {o : Oper} {a : Act} {Q : Exit → Act → World → Prop} {w : World} (hgd : o.guard = none) (s x : Operand)
    (ho : o.op = .call { callee := .builtin .append, args := #[s, x], argTypes := #[27, 9] })
    (base : Nat) (v : Value) (l : List UInt8) (t : ByteArray) (hs : a.eval s = v) (hx : a.eval x = .string t) (hown : Own w base v l)
    (hlen : l.length + t.size ≤ 140737488355328) (hbase : base ≤ w.heap.size)
    (h : ∀ v' w', Own w' base v' (l ++ t.data.toList) → w.grownBy w' v.ownBlock → wpList Try.prog ops Q rest (a.put o.dst v') w') : wpList Try.prog ops Q (o :: rest) a w := by
  obtain ⟨i, hi, hz0, hz1, hz2⟩ := info_parts info_u8
  refine Lib.wpList_append_own_string _ hgd s x 27 9 ho base 5 i Try.underlying27 Try.underlying9 hi hz0 hz1 hz2 v l.length (U l) hs hown t hx
    (by simp only [maxLen]; omega) (by omega) hbase ?_
  intro v' w' h1 h2 _
  refine h v' w' ?_ h2
  unfold Own
  rw [List.length_append, U_append, show t.data.toList.length = t.size from by simp]
  exact h1
theorem below_own {B b : Nat} {a w w' : World} {v : Value} {l : List UInt8} (h : Below B a w) (hg : w.grownBy w' v.ownBlock) (ho : Own w b v l) (hb : B ≤ b) (hs : B ≤ w.heap.size) : Below B a w' :=
  h.grown hg hs fun k hk => by have := (World.ownsRow.lt ho k hk).1; omega

set_option maxHeartbeats 400000 in
theorem rnumeral_all (g : Nat) : ∀ (u : Int) (w : World), 0 ≤ u → u < 128 ^ (g + 1) → g < 10 → u ≤ 18446744073709551615 →
    Calls Try.prog 43 #[.int .u64 u] w fun e w' => ∃ v, e = .returned v ∧ Own w' w.heap.size v (numf (g + 1) u.toNat) ∧ Below w.heap.size w w' := by
  have small : ∀ (g : Nat) (u : Int) (w : World), 0 ≤ u → u < 128 →
      Calls Try.prog 43 #[.int .u64 u] w fun e w' => ∃ v, e = .returned v ∧ Own w' w.heap.size v (numf (g + 1) u.toNat) ∧ Below w.heap.size w w' := by
    intro g u w h0 hlt
    have HO : Hid (Own (w.alloc (.cells #[.int .u8 u] 5)) w.heap.size (.slice (some ⟨w.heap.size, 0, none⟩) 1 1) (numf (g + 1) u.toNat)) := by
      obtain ⟨n, rfl⟩ := Int.eq_ofNat_of_zero_le h0
      show Own _ _ _ _
      rw [numf, if_pos (by omega)]
      exact own_build w n (by omega)
    go_enter Try.func43, Try.ntmps43
    go_wp2_with fail
    go_ret
    exact ⟨_, rfl, HO.out, (Below.refl _ _).alloc (Nat.le_refl _) _⟩
  induction g with
  | zero =>
    intro u w h0 h1 hg h2
    exact small 0 u w h0 (by simpa using h1)
  | succ g ih =>
    intro u w h0 h1 hg h2
    by_cases hlt : u < 128
    · exact small (g + 1) u w h0 hlt
    · have hq : u / 128 < 128 ^ (g + 1) := by rw [Int.pow_succ] at h1; omega
      have IH := Lib.hid (ih (u / 128) (w.alloc (.cells #[.int .u8 (u % 128 + 128)] 5)) (by omega) hq (by omega) (by omega))
      have HN : Hid (numf (g + 1 + 1) u.toNat = [UInt8.ofNat (u % 128 + 128).toNat] ++ numf (g + 1) (u / 128).toNat) := by
        obtain ⟨n, rfl⟩ := Int.eq_ofNat_of_zero_le h0
        show _ = _
        rw [numf, if_neg (by omega)]
        rfl
      have HO : Hid (Own (w.alloc (.cells #[.int .u8 (u % 128 + 128)] 5)) w.heap.size (.slice (some ⟨w.heap.size, 0, none⟩) 1 1) [UInt8.ofNat (u % 128 + 128).toNat]) := by
        have := own_build w (u % 128 + 128).toNat (by omega)
        rwa [Int.toNat_of_nonneg (by omega)] at this
      have hlen := numf_len (g + 1) (u / 128).toNat
      have hpos := numf_pos g (u / 128).toNat
      clear hq h1 ih
      go_enter Try.func43, Try.ntmps43
      go_wp2_with fail
      refine IH.out.mono ?_
      rintro e w1 ⟨v, rfl, ho, hb⟩
      have hs := hb.size
      simp only [World.size_alloc] at hs
      have HO1 := Lib.hid (HO.out.below hb (by simp))
      have HO2 := Lib.hid ho
      have hb1 : Below w.heap.size w w1 := below_box (hb.mono (by simp))
      clear ho hb
      go_wp2_with (at_builtin; refine app_own rfl (.tmp 12) (.tmp 15) rfl w.heap.size _ _ v _ _ rfl rfl HO1.out HO2.out hpos (by simp; omega) (by omega) ?_; intro v' w2 ho3 hg)
      go_ret
      refine ⟨v', rfl, by rw [HN.out]; exact ho3, below_own hb1 hg HO1.out (Nat.le_refl _) (by omega)⟩
end Go.Proofs.Ytomiacedailmaaa
