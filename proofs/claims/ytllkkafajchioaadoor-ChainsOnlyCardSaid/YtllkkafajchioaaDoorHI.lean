/- Digest: Tagged. -/
import Derived.Test.YtllkkafajchioaaDoorHH
import Derived.Lib.ConvBytes
import Derived.ArgAppend
namespace Go.Proofs.YtllkkafajchioaaDoor
open Go.RowKit

theorem byt_conv (w : World) (s : ByteArray) (hs : s.size ≤ maxLen) : Byt (Lib.bytesWorld w 5 s) (· < w.heap.size + 1) s.data.toList (some ⟨w.heap.size, 0, none⟩) (grownCap w s.size 0 5) := by
  have hl : s.data.toList.length = s.size := by simp
  refine ⟨by rw [hl]; exact grownCap_ge _ _ _ _, grownCap_le_maxLen _ _ _ _ hs, (fun e => by cases e), fun _ => ⟨w.heap.size, 0, rfl, Nat.lt_succ_self _, fun i u hu => ?_⟩⟩
  have hi : i < s.size := by
    by_cases h : i < s.size
    · exact h
    · rw [List.getElem?_eq_none (by rw [U_length, hl]; omega)] at hu; cases hu
  rw [Nat.zero_add, Lib.bytesWorld_cell _ _ _ _ hi, ← hu, U_get, List.getElem?_eq_getElem (by rw [hl]; exact hi)]
  simp [List.getD, hi]
theorem below_conv (w : World) (s : ByteArray) : Below w.heap.size w (Lib.bytesWorld w 5 s) := by
  refine ⟨rfl, rfl, rfl, by rw [Lib.bytesWorld_size]; omega, fun k hk => Lib.bytesWorld_at_old _ _ _ _ hk⟩

theorem RowB.byt {w : World} {b : Nat} {t : TypeId} {l : List UInt8} (h : RowB w b t l) (hm : l.length ≤ maxLen) : Byt w (fun i => i = b) l (some ⟨b, 0, none⟩) l.length :=
  ⟨Nat.le_refl _, hm, (fun e => by cases e), fun _ => ⟨b, 0, rfl, rfl, fun i u hu => by
    rw [Nat.zero_add, cell_of_row w b i _ _ _ h]
    simpa using hu⟩⟩

/-- append of bytes onto a whole array of bytes -/
theorem wp_app_row {o : Oper} {a : Act} {K : Act → World → Prop} {Q : Exit → Act → World → Prop} {w : World} (s x : Operand)
    (ho : o.op = .call { callee := .builtin .append, args := #[s, x], argTypes := #[41, 41] })
    (g n : Nat) (S : Nat → Prop) (A : Option Addr) (cap : Nat) (l l2 : List UInt8) (t : TypeId) (hs : a.eval s = .slice (some ⟨g, 0, none⟩) n n) (hn : n = l.length) (hx : a.eval x = .slice A l2.length cap) (hrow : RowB w g t l) (hsrc : Byt w S l2 A cap)
    (hlen : l.length + l2.length ≤ 140737488355328)
    (h : ∀ A' c' w', Byt w' (fun i => i = g ∨ (w.heap.size ≤ i ∧ i < w'.heap.size)) (l ++ l2) A' c' → Below w.heap.size w w' → K (a.put o.dst (.slice A' (l ++ l2).length c')) w') : o.wp Tryd.prog a w K Q := by
  obtain ⟨i, hi, hz0, hz1, hz2⟩ := info_parts info_u8
  subst hn
  by_cases h0 : l2 = []
  · subst h0
    have hrun : (Builtin.append_ #[41, 41] o.type #[.slice (some ⟨g, 0, none⟩) l.length l.length, .slice A 0 cap]).run Tryd.prog w = .ok (.slice (some ⟨g, 0, none⟩) l.length l.length) w := by
      rcases A with _ | ad <;> simp [Builtin.append_, run_underlying Tryd.underlying41, sizeOf, typeInfo, hi, Builtin.lenOf, Builtin.firstCells, storeCells, loadCells, loadCellsFrom]
    have hx' : a.eval x = .slice A 0 cap := hx
    unfold Oper.wp
    simp [execOp, ho, resolve, invoke, builtin, hs, hx', hrun, Result.andThen]
    have := h (some ⟨g, 0, none⟩) l.length w (by rw [List.append_nil]; exact (hrow.byt (by simp only [maxLen]; simp at hlen; omega)).keep fun i hi => ⟨.inl hi, rfl⟩) (Below.refl _ _)
    rw [List.append_nil] at this
    exact this
  · have hpos : 0 < l2.length := List.length_pos_iff.2 h0
    obtain ⟨b, ofs, rfl, hS, hc⟩ := hsrc.2.2.2 hpos
    obtain ⟨v', w', hrun, h1, h2⟩ := run_append_arg_grows (P := Tryd.prog) w 41 o.type 5 i (.int .u8 0) 1 1 Tryd.underlying41 hi hz0 hz1 hz2 rfl (by omega) ⟨g, 0, none⟩ l.length l.length (U l) (by rw [U_length, Nat.mul_one])
      (fun j u hu => by
        rw [Go.WideShapes.add_plain, Nat.zero_add, cell_of_row w g j _ _ _ hrow]
        simpa using hu)
      ⟨b, ofs, none⟩ l2.length cap (U l2) (by rw [U_length, Nat.mul_one]) (fun j u hu => by
        rw [Go.WideShapes.add_plain]
        exact hc j u hu) (by omega) (by simp only [maxLen]; omega) (by omega)
    have hown : Own w' w.heap.size v' (l ++ l2) := by
      unfold Own
      rw [List.length_append, U_append]
      exact h1
    obtain ⟨A', c', rfl, hy⟩ := hown.byt
    have := h A' c' w' (hy.keep fun i hi => ⟨.inr hi, rfl⟩) ((Below.refl _ _).grown h2 (Nat.le_refl _) (fun k hk => by cases hk))
    rw [List.length_append] at this hrun
    unfold Oper.wp
    simp [execOp, ho, resolve, invoke, builtin, hs, hx, hrun, Result.andThen]
    exact this
theorem app_row {ops : Array Oper} {rest : List Oper} {o : Oper} {a : Act} {Q : Exit → Act → World → Prop} {w : World} (hgd : o.guard = none) (s x : Operand)
    (ho : o.op = .call { callee := .builtin .append, args := #[s, x], argTypes := #[41, 41] })
    (g n : Nat) (S : Nat → Prop) (A : Option Addr) (cap : Nat) (l l2 : List UInt8) (t : TypeId) (hs : a.eval s = .slice (some ⟨g, 0, none⟩) n n) (hn : n = l.length) (hx : a.eval x = .slice A l2.length cap) (hrow : RowB w g t l) (hsrc : Byt w S l2 A cap)
    (hlen : l.length + l2.length ≤ 140737488355328)
    (h : ∀ A' c' w', Byt w' (fun i => i = g ∨ (w.heap.size ≤ i ∧ i < w'.heap.size)) (l ++ l2) A' c' → Below w.heap.size w w' → wpList Tryd.prog ops Q rest (a.put o.dst (.slice A' (l ++ l2).length c')) w') : wpList Tryd.prog ops Q (o :: rest) a w :=
  wpList_plain hgd fun _ hK => wp_app_row s x ho g n S A cap l l2 t hs hn hx hrow hsrc hlen fun A' c' w' h1 h2 => hK _ _ (h A' c' w' h1 h2)
theorem step_app_row {ops : Array Oper} {o : Oper} {a : Act} {K : Act → World → Prop} {Q : Exit → Act → World → Prop} {E : Prop} {w : World} (hgd : o.guard = none) (s x : Operand)
    (ho : o.op = .call { callee := .builtin .append, args := #[s, x], argTypes := #[41, 41] })
    (g n : Nat) (S : Nat → Prop) (A : Option Addr) (cap : Nat) (l l2 : List UInt8) (t : TypeId) (hs : a.eval s = .slice (some ⟨g, 0, none⟩) n n) (hn : n = l.length) (hx : a.eval x = .slice A l2.length cap) (hrow : RowB w g t l) (hsrc : Byt w S l2 A cap)
    (hlen : l.length + l2.length ≤ 140737488355328)
    (h : ∀ A' c' w', Byt w' (fun i => i = g ∨ (w.heap.size ≤ i ∧ i < w'.heap.size)) (l ++ l2) A' c' → Below w.heap.size w w' → K (a.put o.dst (.slice A' (l ++ l2).length c')) w') : if Region.wanted o (yielded ops a.tmps) = true then Oper.wp Tryd.prog o a w K Q else E := by
  have hw : Region.wanted o (yielded ops a.tmps) = true := by simp [Region.wanted, hgd]
  rw [if_pos hw]
  exact wp_app_row s x ho g n S A cap l l2 t hs hn hx hrow hsrc hlen h

/-- the hash under a tag -/
def tagd (t b : List UInt8) : List UInt8 := sha (sha t ++ b)
theorem tagd_len (t b : List UInt8) : (tagd t b).length = 32 := sha_len _

set_option maxRecDepth 100000 in
set_option maxHeartbeats 1600000 in
theorem tagged_all (s : ByteArray) (l : List UInt8) (A : Option Addr) (cap : Nat) (w : World) (hs : s.size ≤ 1000000) (hn : l.length ≤ 1000000) (hl : Byt w (· < w.heap.size) l A cap) (hk : KR w Kt) :
    Calls Tryd.prog 27 #[.string s, .slice A l.length cap] w fun e w' => e = .returned (.agg (U (tagd s.data.toList l)).toArray) ∧ Below w.heap.size w w' := by
  have HL := Lib.hid hl
  have HK := Lib.hid hk
  have hlt0 := hk.lt
  have hconv := fun (w : World) (s : ByteArray) => Lib.run_convert_string_bytes (P := Tryd.prog) w 9 41 5 s Tryd.underlying9 Tryd.underlying41 Tryd.underlying5
  have hz : RowB (w.alloc (.cells (U (flb 32 [])).toArray 23)) w.heap.size 23 (flb 32 []) := heap_alloc_new w _
  have HZ := Lib.hid hz
  clear hl hk hz
  go_enter Tryd.func27, Tryd.ntmps27
  go_wp2_with fail
  have hgen : ∀ W1, w.alloc (.cells (U (flb 32 [])).toArray 23) = W1 → RowB W1 w.heap.size 23 (flb 32 []) ∧ Below w.heap.size w W1 ∧ W1.heap.size = w.heap.size + 1 := by
    rintro W1 rfl
    exact ⟨HZ.out, (Below.refl _ _).alloc (Nat.le_refl _) _, by simp⟩
  generalize hW1 : w.alloc _ = W1
  obtain ⟨hd1, hb1, hz1⟩ := hgen W1 hW1
  clear hgen hW1
  have hsl : s.data.toList.length = s.size := by simp
  have hbc := below_conv W1 s
  have hzc := Lib.bytesWorld_size W1 5 s
  have C := sum_all s.data.toList _ _ (Lib.bytesWorld W1 5 s) ((byt_conv W1 s (by simp only [maxLen]; omega)).keep fun i hi => ⟨by rw [hzc]; exact hi, rfl⟩) (HK.out.keep ((hbc.block 0 (by omega)).trans (hb1.block 0 hlt0)))
  rw [hsl, hz1] at C
  refine C.mono ?_
  rintro e w2 ⟨rfl, hb⟩
  have hb12 : Below W1.heap.size W1 w2 := hbc.trans (hb.mono (by omega))
  have hz2 : w.heap.size + 2 ≤ w2.heap.size := by have := hb.size; omega
  have HB2 := Lib.hid (hb1.trans (hb12.mono (by omega)))
  have HD2 := Lib.hid (hd1.keep (hb12.block _ (by omega)))
  have hn1 : RowB (w2.alloc (.cells (U (flb 32 [])).toArray 23)) w2.heap.size 23 (flb 32 []) := heap_alloc_new w2 _
  have hn2 := hn1.setRow (sha s.data.toList)
  have hb23 : Below w2.heap.size w2 ((w2.alloc (.cells (U (flb 32 [])).toArray 23)).setRow w2.heap.size (U (sha s.data.toList)).toArray) := below_setRow ((Below.refl _ _).alloc (Nat.le_refl _) _) (Nat.le_refl _) _
  have HL2 := Lib.hid ((HL.out.keep (S' := (· < w.heap.size)) fun i hi => ⟨hi, (hb23.block i (by omega)).trans (HB2.out.block i hi)⟩))
  have hlen := sha_len s.data.toList
  have HLEN := Lib.hid hlen
  clear hd1 hb1 hsl hbc hzc C hb hb12 hlen
  go_wp2_with (first
    | (refine store_B rfl (.tmp 5) (.tmp 8) rfl w2.heap.size (flb 32 []) (sha s.data.toList) rfl rfl 23 hn1 (sha_len _) (by simp [flb]) ?_)
    | (at_builtin; refine app_row rfl (.tmp 9) (.tmp 10) rfl w2.heap.size 32 _ _ _ (sha s.data.toList) l 23 rfl HLEN.out.symm rfl hn2 HL2.out (by rw [HLEN.out]; omega) ?_; intro A4 c4 w4 hy4 hb4; have HY4 := Lib.hid hy4; have HB4 := Lib.hid hb4; clear hy4 hb4))
  have hz3 := HB4.out.size
  simp only [setRow_size, World.size_alloc] at hz3
  have hb24 : Below w2.heap.size w2 w4 := hb23.trans (HB4.out.mono (by simp))
  have hb4 : Below w.heap.size w w4 := HB2.out.trans (hb24.mono (by omega))
  have hd4 := HD2.out.keep (hb24.block _ (by omega))
  have C := sum_all (sha s.data.toList ++ l) A4 c4 w4 (HY4.out.keep fun i hi => ⟨by
    rcases hi with rfl | hi
    · omega
    · exact hi.2, rfl⟩) (HK.out.keep (hb4.block 0 hlt0))
  rw [List.length_append] at C
  refine C.mono ?_
  rintro e w5 ⟨rfl, hb5⟩
  have hz5 := hb5.size
  have HB5 := Lib.hid (hb4.trans (hb5.mono (by omega)))
  have hd5 := hd4.keep (hb5.block _ (by omega))
  have hr5 := hd5.setRow (sha (sha s.data.toList ++ l))
  clear hn1 hn2 hb23 hb24 hb4 hd4 C hb5
  go_wp2_with (refine store_B rfl (.tmp 4) (.tmp 12) rfl w.heap.size (flb 32 []) (sha (sha s.data.toList ++ l)) rfl rfl 23 hd5 (sha_len _) (by simp [flb]) ?_)
  exact bodyPost_ret (res_B rfl _ _ _ _ _ rfl hr5 (sha_len _)) rfl ⟨rfl, below_setRow HB5.out (Nat.le_refl _) _⟩
end Go.Proofs.YtllkkafajchioaaDoor
