/- Chains: the reference: Digits. -/
import Derived.Test.YtllkkafajchioaaDoorXQ
namespace Go.Proofs.YtllkkafajchioaaDoor
open Go.RowKit

/-- a slice of numbers of the call's own -/
def OwnN (w : World) (base : Nat) (v : Value) (l : List Nat) : Prop := w.ownsRow base 3 1 v l.length (NI l)
theorem info_int : (Tryd.prog.info? 3).map (fun i => (i.zero, i.size, i.bytes)) = some (some (.int .i64 0), 1, 8) := by kernel_rfl
theorem OwnN.slice {w : World} {b : Nat} {v : Value} {l : List Nat} (h : OwnN w b v l) : ∃ A cap, v = .slice A l.length cap := by
  rcases h.2 with ⟨rfl, h0⟩ | ⟨g, cap, cur, rfl, _⟩
  · exact ⟨none, 0, by rw [h0]⟩
  · exact ⟨_, _, rfl⟩
theorem ownN_empty (w : World) : OwnN (w.alloc (.cells #[] 3)) w.heap.size (.slice (some ⟨w.heap.size, 0, none⟩) 0 0) [] :=
  ⟨rfl, .inr ⟨w.heap.size, 0, #[], rfl, Nat.le_refl _, heap_alloc_new w _, Nat.le_refl _, Nat.zero_le _, rfl, rfl⟩⟩
theorem OwnN.below {w w' : World} {b : Nat} {v : Value} {l : List Nat} (h : OwnN w b v l) (hb : Below w.heap.size w w') : OwnN w' b v l := owns_below h hb
theorem below_ownN {B b : Nat} {a w w' : World} {v : Value} {l : List Nat} (h : Below B a w) (hg : w.grownBy w' v.ownBlock) (ho : OwnN w b v l) (hb : B ≤ b) (hs : B ≤ w.heap.size) : Below B a w' :=
  h.grown hg hs fun k hk => by have := (World.ownsRow.lt ho k hk).1; omega
theorem app_int {ops : Array Oper} {rest : List Oper} {o : Oper} {a : Act} {Q : Exit → Act → World → Prop} {w : World} (hgd : o.guard = none) (s x : Operand)
    (ho : o.op = .call { callee := .builtin .append, args := #[s, x], argTypes := #[29, 29] })
    (base g n : Nat) (v : Value) (l l2 : List Nat) (hs : a.eval s = v) (hx : a.eval x = .slice (some ⟨g, 0, none⟩) n n) (hn : l2.length = n) (hown : OwnN w base v l) (hsrc : ∀ j u, (NI l2)[j]? = some u → w.cell? ⟨g, j, none⟩ = some u)
    (hlen : l.length + n ≤ 1000000) (hbase : base ≤ w.heap.size)
    (h : ∀ v' w', OwnN w' base v' (l ++ l2) → w.grownBy w' v.ownBlock → wpList Tryd.prog ops Q rest (a.put o.dst v') w') : wpList Tryd.prog ops Q (o :: rest) a w := by
  obtain ⟨i, hi, hz0, hz1, hz2⟩ := info_parts info_int
  refine wpList_append_own _ hgd s x 29 ho base 3 i (.int .i64 0) 1 8 Tryd.underlying29 hi hz0 hz1 hz2 rfl (by omega) v l.length (NI l) hs hown ⟨g, 0, none⟩ n n (NI l2)
    hx (by rw [NI_length, hn, Nat.mul_one]) (fun j u hu => ?_) (NI_one l2) (by simp only [maxLen]; omega) (by omega) hbase ?_
  · rw [Go.WideShapes.add_plain, Nat.zero_add]
    exact hsrc j u hu
  · intro v' w' h1 h2 _
    refine h v' w' ?_ h2
    unfold OwnN
    rw [List.length_append, NI_append, hn]
    exact h1
theorem one_int (w : World) (n : Nat) (t : TypeId) : ∀ j u, (NI [n])[j]? = some u → (w.alloc (.cells #[.int .i64 (n : Int)] t)).cell? ⟨w.heap.size, j, none⟩ = some u := fun j u hu => by
  rw [cell_of_row _ w.heap.size j _ _ _ (heap_alloc_new w _)]
  simpa [NI] using hu
theorem three_int (w : World) (n m k : Nat) (t : TypeId) : ∀ j u, (NI [n, m, k])[j]? = some u → (w.alloc (.cells #[.int .i64 (n : Int), .int .i64 (m : Int), .int .i64 (k : Int)] t)).cell? ⟨w.heap.size, j, none⟩ = some u := fun j u hu => by
  rw [cell_of_row _ w.heap.size j _ _ _ (heap_alloc_new w _)]
  simpa [NI] using hu
theorem d16_in (m : List UInt8) (i j B : Nat) (hB : (by_ m i).toNat = B) (hb : B < 256) (hj : j < 4) : B * 4 ^ j % 256 / 64 = d16 m (4 * i + j) ∧ B * 4 ^ j % 256 % 64 * 4 = B * 4 ^ (j + 1) % 256 := by
  unfold d16
  rw [show (4 * i + j) / 4 = i by omega, hB, show (4 * i + j) % 4 = j by omega]
  obtain rfl | rfl | rfl | rfl : j = 0 ∨ j = 1 ∨ j = 2 ∨ j = 3 := by omega
  · constructor <;> simp <;> omega
  · constructor <;> simp <;> omega
  · constructor <;> simp <;> omega
  · constructor <;> simp <;> omega

set_option maxRecDepth 100000 in
set_option maxHeartbeats 1600000 in
theorem rDigits_all (m : List UInt8) (w : World) (hm : m.length = 32) :
    Calls Tryd.prog 15 #[.agg (U m).toArray] w fun e w' => ∃ A c, e = .returned (.slice A 19 c) ∧ OwnN w' w.heap.size (.slice A 19 c) (dgl m) ∧ Below w.heap.size w w' := by
  have HM := Lib.hid hm
  clear hm
  obtain ⟨h1, hb1, hz1⟩ := box1 w (U m).toArray 23 _ rfl
  have oe := ownN_empty (w.alloc (.cells (U m).toArray 23))
  have hb2 : Below (w.heap.size + 1) (w.alloc (.cells (U m).toArray 23)) ((w.alloc (.cells (U m).toArray 23)).alloc (.cells #[] 3)) := (Below.refl _ _).alloc (by omega) _
  obtain ⟨W1, hW1⟩ : ∃ W1, w.alloc (.cells (U m).toArray 23) = W1 := ⟨_, rfl⟩
  rw [hz1] at oe
  rw [hW1] at h1 hb1 hz1 hb2 oe
  have R1 := Lib.hid (show RowB W1 w.heap.size 23 m from h1)
  have HB1 := Lib.hid hb1
  have OE := Lib.hid oe
  have HB2 := Lib.hid hb2
  have HW1 := Lib.hid hW1
  have HZ1 := Lib.hid hz1
  clear h1 hb1 hz1 hb2 oe hW1
  go_enter Tryd.func15, Tryd.ntmps15
  go_wp2_with fail
  generalize hg : w.alloc _ = W1'
  have e9 : W1' = W1 := hg.symm.trans HW1.out
  clear hg
  rw [e9]
  clear e9 W1' HW1
  go_loopw [3, 4, 5] (fun v s y wr => ∃ (i : Nat) (A' : Option Addr) (c' : Nat), v = .slice A' (4 * i) c' ∧ s = .int .i64 (sm m (4 * i)) ∧ y = .int .i64 i ∧ i ≤ 4 ∧ Hid (OwnN wr (w.heap.size + 1) (.slice A' (4 * i) c') (ds m (4 * i))) ∧ Hid (Below (w.heap.size + 1) W1 wr)) (fun _ _ y _ => 4 - (intOf y).toNat)
  case atStart => exact ⟨0, some ⟨w.heap.size + 1, 0, none⟩, 0, rfl, rfl, rfl, by omega, OE, HB2⟩
  case round =>
    obtain ⟨i, A', c', rfl, rfl, rfl, hi, HO, HB⟩ := hrel
    have hz := HB.out.size
    rw [HZ1.out] at hz
    have hsm := sm_le m (4 * i)
    by_cases hlt : i < 4
    · have b1 : (i : Int) < 4 := by omega
      have hc := (R1.out.keep (HB.out.block _ (by omega))).cell (by_get m i (by rw [HM.out]; omega))
      have hb := (by_ m i).toNat_lt
      obtain ⟨B, hB⟩ : ∃ B, (by_ m i).toNat = B := ⟨_, rfl⟩
      rw [hB] at hc hb
      have HBB := Lib.hid hB
      clear hB
      obtain ⟨wo, hwo⟩ : ∃ wo : World, wo = wr := ⟨_, rfl⟩
      go_wp2_with fail
      clear hc
      rw [← hwo] at HB hz HO ⊢
      clear hwo
      go_loopw [3, 4, 6, 7] (fun v s n y wq => ∃ (j N : Nat) (A' : Option Addr) (c' : Nat), v = .slice A' (4 * i + j) c' ∧ s = .int .i64 (sm m (4 * i + j)) ∧ n = .int .i64 N ∧ Hid (N = B * 4 ^ j % 256) ∧ N < 256 ∧ y = .int .i64 j ∧ j ≤ 4 ∧ Hid (OwnN wq (w.heap.size + 1) (.slice A' (4 * i + j) c') (ds m (4 * i + j))) ∧ Hid (Below (w.heap.size + 1) W1 wq)) (fun _ _ _ y _ => 4 - (intOf y).toNat)
      case atStart => exact ⟨0, B, A', c', rfl, rfl, rfl, Lib.hid (by simp; omega), hb, rfl, by omega, HO, HB⟩
      case round =>
        obtain ⟨j, N, A2, c2, rfl, rfl, rfl, HN, hN, rfl, hj, HO2, HB2⟩ := hrel
        have hz2 := HB2.out.size
        rw [HZ1.out] at hz2
        have hsm2 := sm_le m (4 * i + j)
        by_cases hlt2 : j < 4
        · obtain ⟨k1, k2⟩ := d16_in m i j B HBB.out hb hlt2
          rw [← HN.out] at k1 k2
          have hd3 : N / 64 ≤ 3 := by omega
          have HD := Lib.hid k1
          have HN2 := Lib.hid k2
          have HS := Lib.hid (show sm m (4 * i + (j + 1)) = sm m (4 * i + j) + (3 - N / 64) by rw [k1]; rfl)
          have HDS := Lib.hid (show ds m (4 * i + (j + 1)) = ds m (4 * i + j) ++ [N / 64] by rw [k1]; exact ds_succ m _)
          have HDL := Lib.hid (ds_len m (4 * i + j))
          have HOA := Lib.hid (HO2.out.below ((Below.refl _ _).alloc (Nat.le_refl _) (.cells #[.int .i64 ((N / 64 : Nat) : Int)] 3)))
          have H1I := Lib.hid (one_int wr (N / 64) 3)
          clear k1 k2
          generalize ds m (4 * i + j) = D at *
          generalize sm m (4 * i + j) = S at *
          go_wp2_with (at_builtin; refine app_int rfl (.tmp 27) (.tmp 29) rfl (w.heap.size + 1) _ 1 _ D [N / 64] rfl rfl rfl HOA.out H1I.out (by rw [HDL.out]; omega) (by simp; omega) ?_; intro v5 w5 ho5 hg5; have HB5 := Lib.hid (below_ownN (HB2.out.alloc (by omega) _) hg5 HOA.out (Nat.le_refl _) (by simp; omega)); obtain ⟨A5, c5, e5⟩ := ho5.slice; subst e5; have HO5 := Lib.hid ho5; clear ho5 hg5)
          go_roundw
          case rel =>
            have hl5 : (D ++ [N / 64]).length = 4 * i + (j + 1) := by rw [List.length_append, HDL.out]; rfl
            refine ⟨j + 1, N % 64 * 4, A5, c5, ?_, ?_, ?_, Lib.hid HN2.out, by omega, rfl, by omega, ?_, HB5⟩
            · rw [← hl5]; simp
            · rw [HS.out]; congr 1; omega
            · congr 1
            · rw [HDS.out]
              have := HO5.out
              rw [hl5] at this
              exact Lib.hid this
          case measure => simp [intOf]; omega
        · obtain rfl : j = 4 := by omega
          go_wp2_with fail
          go_roundw
          case rel => exact ⟨i + 1, A2, c2, by rw [Nat.mul_add], by rw [Nat.mul_add], rfl, by omega, by rw [Nat.mul_add]; exact HO2, HB2⟩
          case measure => simp [intOf]; omega
    · obtain rfl : i = 4 := by omega
      have hS : sm m 16 ≤ 48 := sm_le m 16
      have HD := Lib.hid (show dgl m = ds m 16 ++ [sm m 16 / 16, sm m 16 / 4 % 4, sm m 16 % 4] by
        have h3 : sm m 16 / 16 = sm m 16 / 4 ^ (2 - 0) % 4 := by simp; omega
        have h4 : sm m 16 % 4 = sm m 16 / 4 ^ (2 - 2) % 4 := by simp
        have h5 : sm m 16 / 4 % 4 = sm m 16 / 4 ^ (2 - 1) % 4 := by simp
        rw [h3, h4, h5]
        rfl)
      have HDL := Lib.hid (ds_len m 16)
      have HOA := Lib.hid (HO.out.below ((Below.refl _ _).alloc (Nat.le_refl _) (.cells #[.int .i64 ((sm m 16 / 16 : Nat) : Int), .int .i64 ((sm m 16 / 4 % 4 : Nat) : Int), .int .i64 ((sm m 16 % 4 : Nat) : Int)] 3)))
      have H1I := Lib.hid (three_int wr (sm m 16 / 16) (sm m 16 / 4 % 4) (sm m 16 % 4) 3)
      rw [show 4 * 4 = 16 from rfl] at HO HOA ⊢
      clear hsm
      generalize ds m 16 = D at *
      generalize sm m 16 = S at *
      go_wp2_with (at_builtin; refine app_int rfl (.tmp 35) (.tmp 43) rfl (w.heap.size + 1) _ 3 _ D [S / 16, S / 4 % 4, S % 4] rfl rfl rfl HOA.out H1I.out (by rw [HDL.out]; omega) (by simp; omega) ?_; intro v5 w5 ho5 hg5; have HB5 := Lib.hid (below_ownN (HB.out.alloc (by omega) _) hg5 HOA.out (Nat.le_refl _) (by simp; omega)); obtain ⟨A5, c5, e5⟩ := ho5.slice; have hl5 : (D ++ [S / 16, S / 4 % 4, S % 4]).length = 19 := (by rw [List.length_append, HDL.out]; rfl); rw [hl5] at e5; subst e5; have HO5 := Lib.hid ho5; clear ho5 hg5 hl5)
      go_ret
      refine ⟨A5, c5, rfl, ?_, HB1.out.trans (HB5.out.mono (by omega))⟩
      rw [HD.out]
      exact ⟨HO5.out.1, by
        rcases HO5.out.2 with h | ⟨g, cap, cur, e, hg, r⟩
        · exact .inl h
        · exact .inr ⟨g, cap, cur, e, by omega, r⟩⟩
end Go.Proofs.YtllkkafajchioaaDoor
