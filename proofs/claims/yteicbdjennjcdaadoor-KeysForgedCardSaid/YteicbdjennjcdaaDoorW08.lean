/- Several texts joined: parts XP XQ XR XS XT XU XW. -/
import Derived.Test.YteicbdjennjcdaaDoorW07
import Derived.Test.YteicbdjennjcdaaDoorW05
import Derived.Deep.QuietTactic
namespace Go.Proofs.YteicbdjennjcdaaDoor
section
set_option maxRecDepth 100000
open Go.RowKit

set_option maxRecDepth 100000 in
set_option maxHeartbeats 1600000 in
theorem rStep_all (x : List UInt8) (w : World) (hx : x.length = 32) :
    Calls Tryd.prog 97 #[.agg (U x).toArray] w fun e w' => e = .returned (.agg (U (sd x)).toArray) ∧ Below w.heap.size w w' := by
  have HX := Lib.hid hx
  clear hx
  go_enter Tryd.func97, Tryd.ntmps97
  go_wp2_with fail
  generalize hW1 : (w.alloc _).alloc _ = W1
  obtain ⟨h0, h1, hb1, hz1⟩ := box2 w (U x).toArray (U (flb 32 [])).toArray 23 23 W1 hW1
  clear hW1
  have C := rtagged_all stepT x (some ⟨w.heap.size, 0, none⟩) 32 W1 (by decide) (by rw [HX.out]; omega) (((show RowB W1 w.heap.size 23 x from h0).b32 HX.out).keep fun i hi => ⟨by omega, rfl⟩)
  rw [HX.out] at C
  refine C.mono ?_
  rintro e w2 ⟨rfl, hb2⟩
  have hd2 : RowB w2 (w.heap.size + 1) 23 (flb 32 []) := (hb2.block _ (by omega)).trans h1
  have hr2 := hd2.setRow (sd x)
  have HB2 := Lib.hid (hb1.trans (hb2.mono (by omega)))
  clear h0 h1 hb1 C hb2
  go_wp2_with (refine store_B rfl (.tmp 2) (.tmp 4) rfl (w.heap.size + 1) (flb 32 []) (sd x) rfl rfl 23 hd2 (sd_len _) (by simp [flb]) ?_)
  exact bodyPost_ret (res_B rfl _ _ _ _ _ rfl hr2 (sd_len _)) rfl ⟨rfl, below_setRow HB2.out (by omega) _⟩

set_option maxRecDepth 100000 in
set_option maxHeartbeats 1600000 in
theorem rSteps_all (x : List UInt8) (k : Nat) (w : World) (hx : x.length = 32) (hk : k ≤ 1000) :
    Calls Tryd.prog 74 #[.agg (U x).toArray, .int .i64 k] w fun e w' => e = .returned (.agg (U (sn k x)).toArray) ∧ Below w.heap.size w w' := by
  have HX := Lib.hid hx
  clear hx
  go_enter Tryd.func74, Tryd.ntmps74
  go_wp2_with fail
  generalize hW1 : (w.alloc _).alloc _ = W1
  obtain ⟨h0, h1, hb1, hz1⟩ := box2 w (U x).toArray (U (flb 32 [])).toArray 23 23 W1 hW1
  clear hW1
  have R0 := Lib.hid (show RowB W1 w.heap.size 23 (sn 0 x) from h0)
  have R1 := Lib.hid (show RowB W1 (w.heap.size + 1) 23 (flb 32 []) from h1)
  have HB1 := Lib.hid hb1
  have hz1' : w.heap.size + 2 ≤ W1.heap.size := by omega
  clear h0 h1 hb1 hz1
  go_loopw [5] (fun y wr => ∃ j : Nat, y = .int .i64 j ∧ j ≤ k ∧ Hid (RowB wr w.heap.size 23 (sn j x)) ∧ Hid (RowB wr (w.heap.size + 1) 23 (flb 32 [])) ∧ Hid (Below w.heap.size w wr)) (fun y _ => k - (intOf y).toNat)
  case atStart => exact ⟨0, rfl, by omega, R0, R1, HB1⟩
  case round =>
    obtain ⟨j, rfl, hj, H0, H1, HB⟩ := hrel
    have HSN := Lib.hid (sn_len j x HX.out)
    have hl1 := H1.out.lt
    by_cases hjk : j < k
    · have r0 := H0.out
      go_wp2_with (refine load_B rfl (.tmp 2) rfl w.heap.size rfl 23 (sn j x) r0 HSN.out ?_)
      refine (rStep_all (sn j x) wr HSN.out).mono ?_
      rintro e w6 ⟨rfl, hb6⟩
      have r6 := r0.keep (hb6.block _ (by omega))
      have HR7 := Lib.hid (r6.setRow (sn (j + 1) x))
      have HR8 := Lib.hid (show RowB (w6.setRow w.heap.size (U (sn (j + 1) x)).toArray) (w.heap.size + 1) 23 (flb 32 []) from (setRow_other _ _ _ _ (by omega)).trans (H1.out.keep (hb6.block _ hl1)))
      have HB7 := Lib.hid (below_setRow (HB.out.trans (hb6.mono HB.out.size)) (Nat.le_refl _) (U (sn (j + 1) x)).toArray)
      clear r0 hb6
      go_wp2_with (refine store_B rfl (.tmp 2) (.tmp 12) rfl w.heap.size (sn j x) (sn (j + 1) x) rfl rfl 23 r6 (sd_len _) HSN.out ?_)
      go_roundw
      case rel => exact ⟨j + 1, rfl, by omega, HR7, HR8, HB7⟩
      case measure => simp [intOf]; omega
    · have hjk2 : j = k := by omega
      rw [hjk2] at H0 HSN ⊢
      have r0 := H0.out
      have r1 := H1.out
      have r2 := r1.setRow (sn k x)
      clear hjk2 hjk hj
      go_wp2_with (first
        | (refine load_B rfl (.tmp 2) rfl w.heap.size rfl 23 (sn k x) r0 HSN.out ?_)
        | (refine store_B rfl (.tmp 4) (.tmp 13) rfl (w.heap.size + 1) (flb 32 []) (sn k x) rfl rfl 23 r1 HSN.out (by simp [flb]) ?_))
      exact bodyPost_ret (res_B rfl _ _ _ _ _ rfl r2 HSN.out) rfl ⟨rfl, below_setRow HB.out (by omega) _⟩

theorem own_empty (w : World) : Own (w.alloc (.cells #[] 5)) w.heap.size (.slice (some ⟨w.heap.size, 0, none⟩) 0 0) [] := own_row w #[] 0 rfl (by simp [maxLen])

set_option maxRecDepth 100000 in
set_option maxHeartbeats 1600000 in
theorem rFirst_all (x : List UInt8) (i : Nat) (w : World) (hx : x.length = 32) (hi : i < 256) :
    Calls Tryd.prog 75 #[.agg (U x).toArray, .int .i64 i] w fun e w' => e = .returned (.agg (U (fst5 x i)).toArray) ∧ Below w.heap.size w w' := by
  have HX := Lib.hid hx
  clear hx
  obtain ⟨h0, h1, hb1, hz1⟩ := box2 w (U x).toArray (U (flb 32 [])).toArray 23 23 _ rfl
  have oe := own_empty ((w.alloc (.cells (U x).toArray 23)).alloc (.cells (U (flb 32 [])).toArray 23))
  have bx := ((show RowB _ w.heap.size 23 x from h0).b32 HX.out).keep (w' := ((w.alloc (.cells (U x).toArray 23)).alloc (.cells (U (flb 32 [])).toArray 23)).alloc (.cells #[] 5)) (S' := (· < w.heap.size + 2)) fun j hj => ⟨by omega, Below.heap_alloc _ _ j (by omega)⟩
  rw [hz1] at oe
  have OE := Lib.hid oe
  have BX := Lib.hid bx
  have HB2 := Lib.hid (hb1.alloc hb1.size (.cells #[] 5))
  have R1 := Lib.hid (show RowB (((w.alloc (.cells (U x).toArray 23)).alloc (.cells (U (flb 32 [])).toArray 23)).alloc (.cells #[] 5)) (w.heap.size + 1) 23 (flb 32 []) from (Below.heap_alloc _ _ _ (by omega)).trans h1)
  have HZ := Lib.hid (show (((w.alloc (.cells (U x).toArray 23)).alloc (.cells (U (flb 32 [])).toArray 23)).alloc (.cells #[] 5)).heap.size = w.heap.size + 3 by rw [World.size_alloc, hz1])
  have HZ2 := Lib.hid (Nat.le_of_eq HZ.out.symm)
  have HZ3 := Lib.hid (Nat.le_trans (show w.heap.size + 2 ≤ w.heap.size + 3 by omega) HZ2.out)
  clear h0 h1 hb1 hz1 oe bx
  have HBY := Lib.hid (fun w3 : World => byt_one w3 (UInt8.ofNat i) (i : Int) (by rw [UInt8.toNat_ofNat', Nat.mod_eq_of_lt hi]))
  go_enter Tryd.func75, Tryd.ntmps75
  go_wp2_with (first
    | (at_builtin; refine app_byt rfl (.tmp 6) (.tmp 7) rfl (w.heap.size + 2) _ _ _ _ [] x rfl (by rw [HX.out]; rfl) OE.out BX.out (by rw [HX.out]; simp) HZ3.out ?_; intro v3 w3 ho3 hg3; rw [List.nil_append] at ho3; obtain ⟨A3, c3, e3⟩ := ho3.slice; subst e3; have HB3 := Lib.hid (below_own HB2.out hg3 OE.out (by omega) (Nat.le_trans (by omega) HZ2.out)); have HR3 := Lib.hid (R1.out.grown hg3 (fun e => by have := (World.ownsRow.lt OE.out _ e).1; omega)); have hsz3 := Nat.le_trans HZ2.out hg3.size; have HO3 := Lib.hid (show Own (w3.alloc (.cells #[.int .u8 i] 5)) (w.heap.size + 2) (.slice A3 x.length c3) x from World.ownsRow.alloc ho3 _); clear ho3 hg3)
    | (at_builtin; refine app_byt rfl (.tmp 9) (.tmp 12) rfl (w.heap.size + 2) _ _ _ _ x [UInt8.ofNat i] rfl rfl HO3.out (HBY.out _) (by rw [HX.out]; simp) (by simp; omega) ?_; intro v4 w4 ho4 hg4; obtain ⟨A4, c4, e4, hy4⟩ := ho4.byt; subst e4; have HY4 := Lib.hid hy4; have HB4 := Lib.hid (below_own (HB3.out.alloc (by omega) _) hg4 HO3.out (by omega) (by simp; omega)); have HR4 := Lib.hid ((show RowB (w3.alloc (.cells #[.int .u8 i] 5)) (w.heap.size + 1) 23 (flb 32 []) from (Below.heap_alloc _ _ _ (by omega)).trans HR3.out).grown hg4 (fun e => by have := (World.ownsRow.lt HO3.out _ e).1; omega)); clear ho4 hg4 hy4))
  have C := rtagged_all chainT (x ++ [UInt8.ofNat i]) A4 c4 w4 (by decide) (by rw [List.length_append, HX.out]; simp) (HY4.out.keep fun j hj => ⟨hj.2, rfl⟩)
  rw [show (x ++ [UInt8.ofNat i]).length = x.length + 1 by simp] at C
  refine C.mono ?_
  rintro e w5 ⟨rfl, hb5⟩
  have r5 := HR4.out.keep (hb5.block _ HR4.out.lt)
  have r6 := r5.setRow (fst5 x i)
  have HB5 := Lib.hid (HB4.out.trans (hb5.mono HB4.out.size))
  clear hb5
  go_wp2_with (refine store_B rfl (.tmp 4) (.tmp 14) rfl (w.heap.size + 1) (flb 32 []) (fst5 x i) rfl rfl 23 r5 (fst5_len _ _) (by simp [flb]) ?_)
  exact bodyPost_ret (res_B rfl _ _ _ _ _ rfl r6 (fst5_len _ _)) rfl ⟨rfl, below_setRow HB5.out (by omega) _⟩
end
section
set_option maxRecDepth 100000
open Go.RowKit

theorem range_byt {w : World} {b ofs : Nat} {x : List UInt8} (h : w.rangeAt b ofs (U x)) (hx : x.length = 32) : Byt w (· = b) x (some ⟨b, ofs, none⟩) 32 :=
  ⟨by omega, by simp only [maxLen]; omega, (fun e => by cases e), fun _ => ⟨b, ofs, rfl, rfl, fun i u hu => h i u hu⟩⟩
theorem flat_take (L : List (List UInt8)) (k : Nat) (x : List UInt8) (h : L[k]? = some x) : (L.take (k + 1)).flatten = (L.take k).flatten ++ x := by
  rw [take_one L k x h]
  simp
theorem flat_len32 (L : List (List UInt8)) (hL : ∀ d ∈ L, d.length = 32) : L.flatten.length = 32 * L.length := by
  induction L with
  | nil => rfl
  | cons x L ih =>
    rw [List.flatten_cons, List.length_append, ih (fun d hd => hL d (List.mem_cons_of_mem _ hd)), hL x (List.mem_cons_self ..), List.length_cons]
    omega

set_option maxRecDepth 100000 in
set_option maxHeartbeats 1600000 in
theorem rKey_all (L : List (List UInt8)) (A : Option Addr) (cap : Nat) (w : World) (hn : L.length ≤ 100) (hl : DL w (· < w.heap.size) L A cap) :
    Calls Tryd.prog 82 #[.slice A L.length cap] w fun e w' => e = .returned (.agg (U (pubk L)).toArray) ∧ Below w.heap.size w w' := by
  have HL := Lib.hid hl
  have hcap := hl.1
  have hcm : cap ≤ 9223372036854775807 := hl.2.1
  have HTL := Lib.hid (show ∀ k, (L.take k).flatten.length ≤ 3200 from fun k => by
    rw [flat_len32 _ (fun d hd => hl.2.2.2.1 d (List.mem_of_mem_take hd)), List.length_take]; omega)
  obtain ⟨h1, hb1, hz1⟩ := box1 w (U (flb 32 [])).toArray 23 _ rfl
  have oe := own_empty (w.alloc (.cells (U (flb 32 [])).toArray 23))
  have hb2 : Below (w.heap.size + 1) (w.alloc (.cells (U (flb 32 [])).toArray 23)) ((w.alloc (.cells (U (flb 32 [])).toArray 23)).alloc (.cells #[] 5)) := (Below.refl _ _).alloc (by omega) _
  obtain ⟨W1, hW1⟩ : ∃ W1, w.alloc (.cells (U (flb 32 [])).toArray 23) = W1 := ⟨_, rfl⟩
  rw [hz1] at oe
  rw [hW1] at h1 hb1 hz1 hb2 oe
  have R1 := Lib.hid (show RowB W1 w.heap.size 23 (flb 32 []) from h1)
  have HB1 := Lib.hid hb1
  have OE := Lib.hid oe
  have HB2 := Lib.hid hb2
  have HW1 := Lib.hid hW1
  have HZ1 := Lib.hid hz1
  clear hl h1 hb1 hz1 hb2 oe hW1
  go_enter Tryd.func82, Tryd.ntmps82
  go_wp2_with fail
  generalize hg : w.alloc _ = W1'
  have e9 : W1' = W1 := hg.symm.trans HW1.out
  clear hg
  rw [e9]
  clear e9 W1' HW1
  go_loopw [3, 4] (fun v y wr => ∃ (k : Nat) (A' : Option Addr) (c' : Nat), v = .slice A' (L.take k).flatten.length c' ∧ y = .int .i64 k ∧ k ≤ L.length ∧ Hid (Own wr (w.heap.size + 1) (.slice A' (L.take k).flatten.length c') (L.take k).flatten) ∧ Hid (Below (w.heap.size + 1) W1 wr)) (fun _ y _ => L.length - (intOf y).toNat)
  case atStart => exact ⟨0, some ⟨w.heap.size + 1, 0, none⟩, 0, rfl, rfl, Nat.zero_le _, OE, HB2⟩
  case round =>
    obtain ⟨k, A', c', rfl, rfl, hk, HO, HB⟩ := hrel
    have hz := HB.out.size
    rw [HZ1.out] at hz
    by_cases hlt : k < L.length
    · obtain ⟨x, hx⟩ : ∃ x, L[k]? = some x := ⟨_, List.getElem?_eq_getElem hlt⟩
      have HX := Lib.hid (HL.out.2.2.2.1 x (List.mem_of_getElem? hx))
      obtain ⟨b, ofs, rfl, hS, hc⟩ := (HL.out.keep (w' := wr) (S' := (· < w.heap.size)) fun i hi => ⟨hi, (HB.out.block i (by omega)).trans (HB1.out.block i hi)⟩).2.2.2.2 (by omega)
      have HBY := Lib.hid (range_byt (hc k x hx) HX.out)
      have HS := Lib.hid (flat_take L k x hx)
      have h1 := HTL.out (k + 1)
      rw [HS.out, List.length_append] at h1
      clear hx hc
      generalize (L.take k).flatten = M at *
      go_wp2_with (at_builtin; refine app_byt rfl (.tmp 12) (.tmp 16) rfl (w.heap.size + 1) _ _ _ _ M x rfl (by rw [HX.out]; rfl) HO.out HBY.out (by omega) hz ?_; intro v5 w5 ho5 hg5; have HB5 := Lib.hid (below_own HB.out hg5 HO.out (Nat.le_refl _) hz); obtain ⟨A5, c5, e5⟩ := ho5.slice; subst e5; have HO5 := Lib.hid ho5; clear ho5 hg5)
      go_roundw
      case rel => exact ⟨k + 1, A5, c5, by rw [HS.out, List.length_append], rfl, by omega, Lib.hid (by rw [HS.out]; exact HO5.out), HB5⟩
      case measure => simp [intOf]; omega
    · obtain rfl : k = L.length := by omega
      have HO' := HO.out
      have h1 := HTL.out L.length
      rw [List.take_length] at HO' h1 ⊢
      have HOB := Lib.hid HO'.byt
      obtain ⟨A2, c2, e2, hy⟩ := HOB.out
      injection e2 with e2 _ e3
      subst e2 e3
      have C := Lib.hid (rtagged_all publicT L.flatten A' c' wr (by decide) (by omega) (hy.keep fun i hi => ⟨hi.2, rfl⟩))
      have r1 := R1.out.keep (HB.out.block _ (by omega))
      have HR := Lib.hid r1
      clear HO HO' hy r1 HOB
      generalize hM : L.flatten.length = M at *
      have HM := Lib.hid hM
      clear hM
      go_wp2_with fail
      refine C.out.mono ?_
      rintro e w5 ⟨rfl, hb5⟩
      have r5 := HR.out.keep (hb5.block w.heap.size (by omega))
      have r6 := r5.setRow (pubk L)
      have HB5 := Lib.hid (HB1.out.trans ((HB.out.trans (hb5.mono hz)).mono (by omega)))
      clear hb5 C
      go_wp2_with (refine store_B rfl (.tmp 2) (.tmp 19) rfl w.heap.size (flb 32 []) (pubk L) rfl rfl 23 r5 (pubk_len _) (by simp [flb]) ?_)
      exact bodyPost_ret (res_B rfl _ _ _ _ _ rfl r6 (pubk_len _)) rfl ⟨rfl, below_setRow HB5.out (Nat.le_refl _) _⟩
end
section
set_option maxRecDepth 100000
open Go.RowKit

/-- a slice of numbers of the call's own -/
def OwnN (w : World) (base : Nat) (v : Value) (l : List Nat) : Prop := w.ownsRow base 3 1 v l.length (NI l)
theorem info_int : (Tryd.prog.info? 3).map (fun i => (i.zero, i.size, i.bytes)) = some (some (.int .i64 0), 1, 8) := by kernel_rfl
theorem OwnN.slice {w : World} {b : Nat} {v : Value} {l : List Nat} (h : OwnN w b v l) : ∃ A cap, v = .slice A l.length cap := by
  rcases h.2 with ⟨rfl, h0⟩ | ⟨g, cap, cur, rfl, _⟩
  · exact ⟨none, 0, by rw [h0]⟩
  · exact ⟨_, _, rfl⟩
theorem ownN_empty (w : World) : OwnN (w.alloc (.cells #[] 3)) w.heap.size (.slice (some ⟨w.heap.size, 0, none⟩) 0 0) [] :=
  ⟨rfl, .inr ⟨w.heap.size, 0, #[], rfl, Nat.le_refl _, heap_alloc_new w _, Nat.le_refl _, Nat.zero_le _, rfl, rfl⟩⟩
theorem OwnN.below {w w' : World} {b : Nat} {v : Value} {l : List Nat} (h : OwnN w b v l) (hb : Below w.heap.size w w') : OwnN w' b v l := owns_below h hb
theorem below_ownN {B b : Nat} {a w w' : World} {v : Value} {l : List Nat} (h : Below B a w) (hg : w.grownBy w' v.ownBlock) (ho : OwnN w b v l) (hb : B ≤ b) (hs : B ≤ w.heap.size) : Below B a w' :=
  h.grown hg hs fun k hk => by have := (World.ownsRow.lt ho k hk).1; omega
theorem app_int {ops : Array Oper} {rest : List Oper} {o : Oper} {a : Act} {Q : Exit → Act → World → Prop} {w : World} (hgd : o.guard = none) (s x : Operand)
    (ho : o.op = .call { callee := .builtin .append, args := #[s, x], argTypes := #[42, 42] })
    (base g n : Nat) (v : Value) (l l2 : List Nat) (hs : a.eval s = v) (hx : a.eval x = .slice (some ⟨g, 0, none⟩) n n) (hn : l2.length = n) (hown : OwnN w base v l) (hsrc : ∀ j u, (NI l2)[j]? = some u → w.cell? ⟨g, j, none⟩ = some u)
    (hlen : l.length + n ≤ 1000000) (hbase : base ≤ w.heap.size)
    (h : ∀ v' w', OwnN w' base v' (l ++ l2) → w.grownBy w' v.ownBlock → wpList Tryd.prog ops Q rest (a.put o.dst v') w') : wpList Tryd.prog ops Q (o :: rest) a w := by
  obtain ⟨i, hi, hz0, hz1, hz2⟩ := info_parts info_int
  refine wpList_append_own _ hgd s x 42 ho base 3 i (.int .i64 0) 1 8 Tryd.underlying42 hi hz0 hz1 hz2 rfl (by omega) v l.length (NI l) hs hown ⟨g, 0, none⟩ n n (NI l2)
    hx (by rw [NI_length, hn, Nat.mul_one]) (fun j u hu => ?_) (NI_one l2) (by simp only [maxLen]; omega) (by omega) hbase ?_
  · rw [Go.WideShapes.add_plain, Nat.zero_add]
    exact hsrc j u hu
  · intro v' w' h1 h2 _
    refine h v' w' ?_ h2
    unfold OwnN
    rw [List.length_append, NI_append, hn]
    exact h1
theorem one_int (w : World) (n : Nat) (t : TypeId) : ∀ j u, (NI [n])[j]? = some u → (w.alloc (.cells #[.int .i64 (n : Int)] t)).cell? ⟨w.heap.size, j, none⟩ = some u := fun j u hu => by
  rw [cell_of_row _ w.heap.size j _ _ _ (heap_alloc_new w _)]
  simpa [NI] using hu
theorem three_int (w : World) (n m k : Nat) (t : TypeId) : ∀ j u, (NI [n, m, k])[j]? = some u → (w.alloc (.cells #[.int .i64 (n : Int), .int .i64 (m : Int), .int .i64 (k : Int)] t)).cell? ⟨w.heap.size, j, none⟩ = some u := fun j u hu => by
  rw [cell_of_row _ w.heap.size j _ _ _ (heap_alloc_new w _)]
  simpa [NI] using hu
theorem d16_in (m : List UInt8) (i j B : Nat) (hB : (by_ m i).toNat = B) (hb : B < 256) (hj : j < 4) : B * 4 ^ j % 256 / 64 = d16 m (4 * i + j) ∧ B * 4 ^ j % 256 % 64 * 4 = B * 4 ^ (j + 1) % 256 := by
  unfold d16
  rw [show (4 * i + j) / 4 = i by omega, hB, show (4 * i + j) % 4 = j by omega]
  obtain rfl | rfl | rfl | rfl : j = 0 ∨ j = 1 ∨ j = 2 ∨ j = 3 := by omega
  · constructor <;> simp <;> omega
  · constructor <;> simp <;> omega
  · constructor <;> simp <;> omega
  · constructor <;> simp <;> omega

set_option maxRecDepth 100000 in
set_option maxHeartbeats 1600000 in
theorem rDigits_all (m : List UInt8) (w : World) (hm : m.length = 32) :
    Calls Tryd.prog 52 #[.agg (U m).toArray] w fun e w' => ∃ A c, e = .returned (.slice A 19 c) ∧ OwnN w' w.heap.size (.slice A 19 c) (dgl m) ∧ Below w.heap.size w w' := by
  have HM := Lib.hid hm
  clear hm
  obtain ⟨h1, hb1, hz1⟩ := box1 w (U m).toArray 23 _ rfl
  have oe := ownN_empty (w.alloc (.cells (U m).toArray 23))
  have hb2 : Below (w.heap.size + 1) (w.alloc (.cells (U m).toArray 23)) ((w.alloc (.cells (U m).toArray 23)).alloc (.cells #[] 3)) := (Below.refl _ _).alloc (by omega) _
  obtain ⟨W1, hW1⟩ : ∃ W1, w.alloc (.cells (U m).toArray 23) = W1 := ⟨_, rfl⟩
  rw [hz1] at oe
  rw [hW1] at h1 hb1 hz1 hb2 oe
  have R1 := Lib.hid (show RowB W1 w.heap.size 23 m from h1)
  have HB1 := Lib.hid hb1
  have OE := Lib.hid oe
  have HB2 := Lib.hid hb2
  have HW1 := Lib.hid hW1
  have HZ1 := Lib.hid hz1
  clear h1 hb1 hz1 hb2 oe hW1
  go_enter Tryd.func52, Tryd.ntmps52
  go_wp2_with fail
  generalize hg : w.alloc _ = W1'
  have e9 : W1' = W1 := hg.symm.trans HW1.out
  clear hg
  rw [e9]
  clear e9 W1' HW1
  go_loopw [3, 4, 5] (fun v s y wr => ∃ (i : Nat) (A' : Option Addr) (c' : Nat), v = .slice A' (4 * i) c' ∧ s = .int .i64 (sm m (4 * i)) ∧ y = .int .i64 i ∧ i ≤ 4 ∧ Hid (OwnN wr (w.heap.size + 1) (.slice A' (4 * i) c') (ds m (4 * i))) ∧ Hid (Below (w.heap.size + 1) W1 wr)) (fun _ _ y _ => 4 - (intOf y).toNat)
  case atStart => exact ⟨0, some ⟨w.heap.size + 1, 0, none⟩, 0, rfl, rfl, rfl, by omega, OE, HB2⟩
  case round =>
    obtain ⟨i, A', c', rfl, rfl, rfl, hi, HO, HB⟩ := hrel
    have hz := HB.out.size
    rw [HZ1.out] at hz
    have hsm := sm_le m (4 * i)
    by_cases hlt : i < 4
    · have b1 : (i : Int) < 4 := by omega
      have hc := (R1.out.keep (HB.out.block _ (by omega))).cell (by_get m i (by rw [HM.out]; omega))
      have hb := (by_ m i).toNat_lt
      obtain ⟨B, hB⟩ : ∃ B, (by_ m i).toNat = B := ⟨_, rfl⟩
      rw [hB] at hc hb
      have HBB := Lib.hid hB
      clear hB
      obtain ⟨wo, hwo⟩ : ∃ wo : World, wo = wr := ⟨_, rfl⟩
      go_wp2_with fail
      clear hc
      rw [← hwo] at HB hz HO ⊢
      clear hwo
      go_loopw [3, 4, 6, 7] (fun v s n y wq => ∃ (j N : Nat) (A' : Option Addr) (c' : Nat), v = .slice A' (4 * i + j) c' ∧ s = .int .i64 (sm m (4 * i + j)) ∧ n = .int .i64 N ∧ Hid (N = B * 4 ^ j % 256) ∧ N < 256 ∧ y = .int .i64 j ∧ j ≤ 4 ∧ Hid (OwnN wq (w.heap.size + 1) (.slice A' (4 * i + j) c') (ds m (4 * i + j))) ∧ Hid (Below (w.heap.size + 1) W1 wq)) (fun _ _ _ y _ => 4 - (intOf y).toNat)
      case atStart => exact ⟨0, B, A', c', rfl, rfl, rfl, Lib.hid (by simp; omega), hb, rfl, by omega, HO, HB⟩
      case round =>
        obtain ⟨j, N, A2, c2, rfl, rfl, rfl, HN, hN, rfl, hj, HO2, HB2⟩ := hrel
        have hz2 := HB2.out.size
        rw [HZ1.out] at hz2
        have hsm2 := sm_le m (4 * i + j)
        by_cases hlt2 : j < 4
        · obtain ⟨k1, k2⟩ := d16_in m i j B HBB.out hb hlt2
          rw [← HN.out] at k1 k2
          have hd3 : N / 64 ≤ 3 := by omega
          have HD := Lib.hid k1
          have HN2 := Lib.hid k2
          have HS := Lib.hid (show sm m (4 * i + (j + 1)) = sm m (4 * i + j) + (3 - N / 64) by rw [k1]; rfl)
          have HDS := Lib.hid (show ds m (4 * i + (j + 1)) = ds m (4 * i + j) ++ [N / 64] by rw [k1]; exact ds_succ m _)
          have HDL := Lib.hid (ds_len m (4 * i + j))
          have HOA := Lib.hid (HO2.out.below ((Below.refl _ _).alloc (Nat.le_refl _) (.cells #[.int .i64 ((N / 64 : Nat) : Int)] 3)))
          have H1I := Lib.hid (one_int wr (N / 64) 3)
          clear k1 k2
          generalize ds m (4 * i + j) = D at *
          generalize sm m (4 * i + j) = S at *
          go_wp2_with (at_builtin; refine app_int rfl (.tmp 27) (.tmp 29) rfl (w.heap.size + 1) _ 1 _ D [N / 64] rfl rfl rfl HOA.out H1I.out (by rw [HDL.out]; omega) (by simp; omega) ?_; intro v5 w5 ho5 hg5; have HB5 := Lib.hid (below_ownN (HB2.out.alloc (by omega) _) hg5 HOA.out (Nat.le_refl _) (by simp; omega)); obtain ⟨A5, c5, e5⟩ := ho5.slice; subst e5; have HO5 := Lib.hid ho5; clear ho5 hg5)
          go_roundw
          case rel =>
            have hl5 : (D ++ [N / 64]).length = 4 * i + (j + 1) := by rw [List.length_append, HDL.out]; rfl
            refine ⟨j + 1, N % 64 * 4, A5, c5, ?_, ?_, ?_, Lib.hid HN2.out, by omega, rfl, by omega, ?_, HB5⟩
            · rw [← hl5]; simp
            · rw [HS.out]; congr 1; omega
            · congr 1
            · rw [HDS.out]
              have := HO5.out
              rw [hl5] at this
              exact Lib.hid this
          case measure => simp [intOf]; omega
        · obtain rfl : j = 4 := by omega
          go_wp2_with fail
          go_roundw
          case rel => exact ⟨i + 1, A2, c2, by rw [Nat.mul_add], by rw [Nat.mul_add], rfl, by omega, by rw [Nat.mul_add]; exact HO2, HB2⟩
          case measure => simp [intOf]; omega
    · obtain rfl : i = 4 := by omega
      have hS : sm m 16 ≤ 48 := sm_le m 16
      have HD := Lib.hid (show dgl m = ds m 16 ++ [sm m 16 / 16, sm m 16 / 4 % 4, sm m 16 % 4] by
        have h3 : sm m 16 / 16 = sm m 16 / 4 ^ (2 - 0) % 4 := by simp; omega
        have h4 : sm m 16 % 4 = sm m 16 / 4 ^ (2 - 2) % 4 := by simp
        have h5 : sm m 16 / 4 % 4 = sm m 16 / 4 ^ (2 - 1) % 4 := by simp
        rw [h3, h4, h5]
        rfl)
      have HDL := Lib.hid (ds_len m 16)
      have HOA := Lib.hid (HO.out.below ((Below.refl _ _).alloc (Nat.le_refl _) (.cells #[.int .i64 ((sm m 16 / 16 : Nat) : Int), .int .i64 ((sm m 16 / 4 % 4 : Nat) : Int), .int .i64 ((sm m 16 % 4 : Nat) : Int)] 3)))
      have H1I := Lib.hid (three_int wr (sm m 16 / 16) (sm m 16 / 4 % 4) (sm m 16 % 4) 3)
      rw [show 4 * 4 = 16 from rfl] at HO HOA ⊢
      clear hsm
      generalize ds m 16 = D at *
      generalize sm m 16 = S at *
      go_wp2_with (at_builtin; refine app_int rfl (.tmp 35) (.tmp 43) rfl (w.heap.size + 1) _ 3 _ D [S / 16, S / 4 % 4, S % 4] rfl rfl rfl HOA.out H1I.out (by rw [HDL.out]; omega) (by simp; omega) ?_; intro v5 w5 ho5 hg5; have HB5 := Lib.hid (below_ownN (HB.out.alloc (by omega) _) hg5 HOA.out (Nat.le_refl _) (by simp; omega)); obtain ⟨A5, c5, e5⟩ := ho5.slice; have hl5 : (D ++ [S / 16, S / 4 % 4, S % 4]).length = 19 := (by rw [List.length_append, HDL.out]; rfl); rw [hl5] at e5; subst e5; have HO5 := Lib.hid ho5; clear ho5 hg5 hl5)
      go_ret
      refine ⟨A5, c5, rfl, ?_, HB1.out.trans (HB5.out.mono (by omega))⟩
      rw [HD.out]
      exact ⟨HO5.out.1, by
        rcases HO5.out.2 with h | ⟨g, cap, cur, e, hg, r⟩
        · exact .inl h
        · exact .inr ⟨g, cap, cur, e, by omega, r⟩⟩
end
section
set_option maxRecDepth 100000
open Go.RowKit

theorem ev_neq_no {o : Oper} {a : Act} {w : World} (x y : Operand) (l m : List UInt8) (hl : l.length = 32) (hm : m.length = 32) (hne : l ≠ m) (ho : o.op = .binOp .neq 23 x y 23) (hx : a.eval x = .agg (U l).toArray) (hy : a.eval y = .agg (U m).toArray) :
    (execOp a.eval o).run Tryd.prog w = .ok (.value (.bool true)) w := by
  have q1 := eq_dig l m hl hm
  rw [decide_eq_false hne] at q1
  unfold execOp
  simp only [ho, hx, hy]
  go_simp
theorem take_eq_step {α : Type} (P Q : List α) (k : Nat) (x : α) (h : P.take k = Q.take k) (hp : P[k]? = some x) (hq : Q[k]? = some x) : P.take (k + 1) = Q.take (k + 1) := by
  rw [take_one P k x hp, take_one Q k x hq, h]

/-- a slice of numbers that reads as l -/
def IL (w : World) (S : Nat → Prop) (l : List Nat) (A : Option Addr) (cap : Nat) : Prop :=
  l.length ≤ cap ∧ cap ≤ maxLen ∧ (0 < l.length → ∃ b o, A = some ⟨b, o, none⟩ ∧ S b ∧ ∀ (i n : Nat), l[i]? = some n → w.cell? ⟨b, o + i, none⟩ = some (.int .i64 (n : Int)))
theorem IL.keep {w w' : World} {S S' : Nat → Prop} {l : List Nat} {A : Option Addr} {cap : Nat} (h : IL w S l A cap) (hs : ∀ i, S i → S' i ∧ w'.heap[i]? = w.heap[i]?) : IL w' S' l A cap := by
  refine ⟨h.1, h.2.1, fun hp => ?_⟩
  obtain ⟨b, o, e, hS, hc⟩ := h.2.2 hp
  exact ⟨b, o, e, (hs b hS).1, fun i n hn => (World.cell?_of_block (hs b hS).2).trans (hc i n hn)⟩
theorem RowN.il {w : World} {g : Nat} {t : TypeId} {D : List Nat} (h : RowN w g t D) (hD : D.length = 19) : IL w (· = g) D (some ⟨g, 0, none⟩) 19 :=
  ⟨by omega, by simp only [maxLen]; omega, fun _ => ⟨g, 0, rfl, rfl, fun i n hn => by rw [Nat.zero_add]; exact h.cell hn⟩⟩
theorem OwnN.il {w : World} {b n : Nat} {A : Option Addr} {c : Nat} {l : List Nat} (h : OwnN w b (.slice A n c) l) : IL w (fun i => b ≤ i ∧ i < w.heap.size) l A c := by
  have hcs : ∀ g, (Value.slice A n c).ownBlock = some g → ∀ j u, (NI l)[j]? = some u → w.cell? ((⟨g, 0, none⟩ : Addr).add j) = some u := fun g hg => World.ownsRow.cells h hg
  rcases h.2 with ⟨e, h0⟩ | ⟨g, cap, cur, e, hb, hh, h1, h2, _⟩
  · injection e with e1 _ e3
    subst e1 e3
    exact ⟨by omega, Nat.zero_le _, fun hp => by omega⟩
  · injection e with e1 _ e3
    subst e1 e3
    refine ⟨h1, h2, fun _ => ⟨g, 0, rfl, ⟨hb, (Array.getElem?_eq_some_iff.1 hh).1⟩, fun i m hm => ?_⟩⟩
    have := hcs g rfl i (.int .i64 (m : Int)) (by rw [NI_get, hm]; rfl)
    rwa [Go.WideShapes.add_plain] at this

set_option maxRecDepth 100000 in
set_option maxHeartbeats 3200000 in
theorem rSameInts_all (P Q : List Nat) (A : Option Addr) (c : Nat) (B : Option Addr) (d : Nat) (w : World) (hp : IL w (· < w.heap.size) P A c) (hq : IL w (· < w.heap.size) Q B d) (hn : P.length ≤ 1000) (_hn2 : Q.length ≤ 1000) :
    Calls Tryd.prog 54 #[.slice A P.length c, .slice B Q.length d] w fun e w' => e = .returned (.bool (decide (P = Q))) ∧ Below w.heap.size w w' := by
  by_cases hne : P.length = Q.length
  · have HP := Lib.hid hp
    have HQ := Lib.hid hq
    have hc1 := hp.1
    have hc2 := hq.1
    have HLQ := Lib.hid hne
    rw [← hne] at hc2 ⊢
    clear hp hq hne _hn2
    go_enter Tryd.func54, Tryd.ntmps54
    go_wp2_with fail
    go_loopw [5] (fun x wr => ∃ k : Nat, k ≤ P.length ∧ x = .int .i64 k ∧ Hid (P.take k = Q.take k) ∧ Below w.heap.size w wr) (fun x _ => P.length - (intOf x).toNat)
    case atStart => exact ⟨0, Nat.zero_le _, rfl, Lib.hid rfl, Below.refl _ _⟩
    case round =>
      obtain ⟨k, hk, rfl, HT, hb⟩ := hrel
      have HB := Lib.hid hb
      have hz := hb.size
      by_cases hlt : k < P.length
      · obtain ⟨b1, o1, rfl, hS1, hr1⟩ := HP.out.2.2 (by omega)
        obtain ⟨b2, o2, rfl, hS2, hr2⟩ := HQ.out.2.2 (by rw [← HLQ.out]; omega)
        obtain ⟨x, hx⟩ : ∃ x, P[k]? = some x := ⟨_, List.getElem?_eq_getElem hlt⟩
        obtain ⟨y, hy⟩ : ∃ y, Q[k]? = some y := ⟨_, List.getElem?_eq_getElem (by rw [← HLQ.out]; exact hlt)⟩
        have e1 := (World.cell?_of_block (a := ⟨b1, o1 + k, none⟩) (hb.block b1 hS1)).trans (hr1 k x hx)
        have e2 := (World.cell?_of_block (a := ⟨b2, o2 + k, none⟩) (hb.block b2 hS2)).trans (hr2 k y hy)
        have HXX := Lib.hid hx
        have HYY := Lib.hid hy
        have bk : (k : Int) < P.length := by omega
        clear hr1 hr2 hx hy hb
        by_cases hxy : x = y
        · have hq1 : ((x : Int) != y) = false := by simp [hxy]
          have HXY := Lib.hid hxy
          clear hxy
          go_wp2_with fail
          go_quiet (fail)
          go_wp2_with fail
          go_roundw
          case rel => exact ⟨k + 1, by omega, by go_num, Lib.hid (take_eq_step P Q k x HT.out HXX.out (by rw [HXY.out]; exact HYY.out)), below_drewN HB.out _⟩
          case measure => simp [intOf]; omega
        · have hq1 : ((x : Int) != y) = true := by
            have : ¬ ((x : Int) = y) := by omega
            simpa using this
          have HNE := Lib.hid (show decide (P = Q) = false from decide_eq_false fun e => hxy (by have h1 := HXX.out; rw [e, HYY.out] at h1; injection h1 with h1; exact h1.symm))
          clear hxy
          go_wp2_with fail
          go_quiet (fail)
          go_wp2_with fail
          go_ret
          exact ⟨ret_bool HNE.out.symm, below_drewN HB.out _⟩
      · obtain rfl : k = P.length := by omega
        have HE := Lib.hid (show decide (P = Q) = true from decide_eq_true (by have h := HT.out; rwa [List.take_length, HLQ.out, List.take_length] at h))
        clear hb
        go_wp2_with fail
        go_ret
        exact ⟨ret_bool HE.out.symm, HB.out⟩
  · have HNE := Lib.hid (show decide (P = Q) = false from decide_eq_false fun e => hne (by rw [e]))
    have hneq : ((P.length : Int) != Q.length) = true := by
      have : ¬ ((P.length : Int) = Q.length) := by omega
      simpa using this
    have hneq2 : (P.length != Q.length) = true := by simpa using hne
    clear hp hq
    generalize P.length = a at *
    generalize Q.length = b at *
    go_enter Tryd.func54, Tryd.ntmps54
    go_wp2_with fail
    go_ret
    exact ⟨ret_bool HNE.out.symm, Below.refl _ _⟩
end
section
set_option maxRecDepth 100000
open Go.RowKit

theorem enters_First : Enters Tryd.prog 75 := enters_of Tryd.func75 (by kernel_rfl) rfl
theorem enters_Steps : Enters Tryd.prog 74 := enters_of Tryd.func74 (by kernel_rfl) rfl
theorem ev_index_int {o : Oper} {a : Act} {w : World} (x y : Operand) (b ofs len cap K : Nat) (ho : o.op = .indexAddr 42 x y) (hx : a.eval x = .slice (some ⟨b, ofs, none⟩) len cap) (hy : a.eval y = .int .i64 K) (hk : K < len) :
    (execOp a.eval o).run Tryd.prog w = .ok (.value (.pointer (some ⟨b, ofs + K, none⟩))) w := by
  have b1 : (K : Int) < len := by omega
  have b2 : (0 : Int) ≤ K := by omega
  unfold execOp
  simp only [ho, hx, hy]
  go_simp
theorem ev_load_int {o : Oper} {a : Act} {w : World} (x : Operand) (b ofs : Nat) (n : Int) (ho : o.op = .load 3 x) (hx : a.eval x = .pointer (some ⟨b, ofs, none⟩)) (hc : w.cell? ⟨b, ofs, none⟩ = some (.int .i64 n)) :
    (execOp a.eval o).run Tryd.prog w = .ok (.value (.int .i64 n)) w := by
  unfold execOp
  simp only [ho, hx]
  go_simp
/-- the last elements -/
def rp (s : List UInt8) (k : Nat) : List (List UInt8) := (List.range k).map fun i => sn 3 (fst5 s i)
theorem rp_len (s : List UInt8) (k : Nat) : (rp s k).length = k := by simp [rp]
theorem rp_succ (s : List UInt8) (k : Nat) : rp s (k + 1) = rp s k ++ [sn 3 (fst5 s k)] := by simp [rp, List.range_succ]
theorem rp_rc (s : List UInt8) : rp s 19 = rc (fsts s 19) (List.replicate 19 3) 19 := by
  unfold rp rc
  apply List.map_congr_left
  intro i hi
  have hi := List.mem_range.1 hi
  rw [List.getD_eq_getElem?_getD, List.getD_eq_getElem?_getD, List.getElem?_replicate, if_pos hi]
  simp [fsts, hi]
theorem rp_dig (s : List UInt8) (k : Nat) : ∀ d ∈ rp s k, d.length = 32 := by
  intro d hd
  obtain ⟨i, _, rfl⟩ := List.mem_map.1 hd
  exact sn_len _ _ (fst5_len _ _)

set_option maxRecDepth 100000 in
set_option maxHeartbeats 1600000 in
theorem rPublic_all (s : List UInt8) (w : World) (hs : s.length = 32) :
    Calls Tryd.prog 70 #[.agg (U s).toArray] w fun e w' => e = .returned (.agg (U (pubF s)).toArray) ∧ Below w.heap.size w w' := by
  have HS := Lib.hid hs
  clear hs
  obtain ⟨h0, h1, hb1, hz1⟩ := box2 w (U s).toArray (U (flb 32 [])).toArray 23 23 _ rfl
  obtain ⟨W1, hW1⟩ : ∃ W1, (w.alloc (.cells (U s).toArray 23)).alloc (.cells (U (flb 32 [])).toArray 23) = W1 := ⟨_, rfl⟩
  rw [hW1] at h0 h1 hb1 hz1
  have oe := ownD_empty W1
  have hb2 : Below W1.heap.size W1 (W1.alloc (.cells #[] 23)) := (Below.refl _ _).alloc (Nat.le_refl _) _
  rw [hz1] at oe hb2
  have R0 := Lib.hid (show RowB W1 w.heap.size 23 s from h0)
  have R1 := Lib.hid (show RowB W1 (w.heap.size + 1) 23 (flb 32 []) from h1)
  have HB1 := Lib.hid hb1
  have OE := Lib.hid oe
  have HB2 := Lib.hid hb2
  have HW1 := Lib.hid hW1
  have HZ1 := Lib.hid hz1
  clear h0 h1 hb1 hz1 hb2 oe hW1
  go_enter Tryd.func70, Tryd.ntmps70
  go_wp2_with fail
  generalize hg : (w.alloc _).alloc _ = W1'
  have e9 : W1' = W1 := hg.symm.trans HW1.out
  clear hg
  rw [e9]
  clear e9 W1' HW1
  rw [show w.heap.size + 1 + 1 = w.heap.size + 2 from rfl]
  go_loopw [3, 4] (fun v y wr => ∃ (k : Nat) (A : Option Addr) (c : Nat), v = .slice A k c ∧ y = .int .i64 k ∧ k ≤ 19 ∧ Hid (OwnD wr (w.heap.size + 2) (.slice A k c) (rp s k)) ∧ Hid (Below (w.heap.size + 2) W1 wr)) (fun _ y _ => 19 - (intOf y).toNat)
  case atStart => exact ⟨0, _, _, rfl, rfl, by omega, OE, HB2⟩
  case round =>
    obtain ⟨k, A, c, rfl, rfl, hk, HO, HB⟩ := hrel
    have hz := HB.out.size
    rw [HZ1.out] at hz
    by_cases hlt : k < 19
    · have r0 := R0.out.keep (HB.out.block _ (by omega))
      have HL := Lib.hid (rp_len s k)
      have HF := Lib.hid (rp_succ s k)
      have h5 := fst5_len s k
      have H5 := Lib.hid h5
      have H6 := Lib.hid (sn_len 3 _ h5)
      clear h5
      go_wp2_with (refine load_B rfl (.tmp 1) rfl w.heap.size rfl 23 s r0 HS.out ?_)
      refine (rFirst_all s k wr HS.out (by omega)).mono ?_
      rintro e w5 ⟨rfl, hb5⟩
      have HB5 := Lib.hid (HB.out.trans (hb5.mono hz))
      have HO5 := Lib.hid (HO.out.step hb5)
      have hz5 := hb5.size
      clear hb5
      go_wp2_with fail
      refine (rSteps_all (fst5 s k) 3 w5 H5.out (by omega)).mono ?_
      rintro e w6 ⟨rfl, hb6⟩
      have HB6 := Lib.hid (HB5.out.trans (hb6.mono (by omega)))
      have HO6 := Lib.hid (HO5.out.step hb6)
      have hz6 := hb6.size
      have HOA := Lib.hid (HO6.out.alloc (.cells (U (sn 3 (fst5 s k))).toArray 23))
      have HSRC := Lib.hid (show RowB (w6.alloc (.cells (U (sn 3 (fst5 s k))).toArray 23)) w6.heap.size 23 (sn 3 (fst5 s k)) from heap_alloc_new w6 _)
      clear hb6 r0
      generalize sn 3 (fst5 s k) = X at *
      generalize rp s k = L at *
      go_wp2_with (first
        | (refine bs_dig rfl (.tmp 14) rfl X rfl H6.out ?_)
        | (at_builtin; refine app_dig rfl (.tmp 10) (.tmp 15) rfl (w.heap.size + 2) w6.heap.size _ L X rfl rfl HOA.out HSRC.out H6.out (by rw [HL.out]; omega) (by simp; omega) ?_; intro v7 w7 ho7 hg7; obtain ⟨A7, c7, e7⟩ := ho7.slice; rw [List.length_append, HL.out] at e7; subst e7; have HO7 := Lib.hid ho7; have HB7 := Lib.hid (below_ownD (HB6.out.alloc (by omega) _) hg7 HOA.out (Nat.le_refl _) (by simp; omega)); clear ho7 hg7))
      go_roundw
      case rel => exact ⟨k + 1, A7, c7, rfl, rfl, by omega, Lib.hid (by rw [HF.out]; exact HO7.out), HB7⟩
      case measure => simp [intOf]; omega
    · obtain rfl : k = 19 := by omega
      have hl := HO.out.dlw (rp_len s 19)
      have C := rKey_all (rp s 19) A c wr (by rw [rp_len]; omega) hl
      rw [rp_len, show pubk (rp s 19) = pubF s by rw [rp_rc]; rfl] at C
      have CC := Lib.hid C
      have HR := Lib.hid (R1.out.keep (HB.out.block _ (by omega)))
      clear C hl
      go_wp2_with fail
      refine CC.out.mono ?_
      rintro e w5 ⟨rfl, hb5⟩
      have r5 := HR.out.keep (hb5.block (w.heap.size + 1) (by omega))
      have r6 := r5.setRow (pubF s)
      have HB5 := Lib.hid (HB1.out.trans ((HB.out.trans (hb5.mono hz)).mono (by omega)))
      clear hb5 CC
      go_wp2_with (refine store_B rfl (.tmp 2) (.tmp 18) rfl (w.heap.size + 1) (flb 32 []) (pubF s) rfl rfl 23 r5 (pubF_len _) (by simp [flb]) ?_)
      exact bodyPost_ret (res_B rfl _ _ _ _ _ rfl r6 (pubF_len _)) rfl ⟨rfl, below_setRow HB5.out (by omega) _⟩
end
section
set_option maxRecDepth 100000
open Go.RowKit

theorem rc_at (L : List (List UInt8)) (D : List Nat) (k d : Nat) (x : List UInt8) (hx : L[k]? = some x) (hd : D[k]? = some d) : rc L D (k + 1) = rc L D k ++ [sn d x] := by
  rw [rc_succ, List.getD_eq_getElem?_getD, hd, List.getD_eq_getElem?_getD, hx]
  rfl
theorem fsts_at (s : List UInt8) (k : Nat) (hk : k < 19) : (fsts s 19)[k]? = some (fst5 s k) := by simp [fsts, hk]

set_option maxRecDepth 100000 in
set_option maxHeartbeats 3200000 in
theorem rSign_all (s m : List UInt8) (w : World) (hs : s.length = 32) (hm : m.length = 32) :
    Calls Tryd.prog 40 #[.agg (U s).toArray, .agg (U m).toArray] w fun e w' => ∃ A c, e = .returned (.slice A 19 c) ∧ OwnD w' w.heap.size (.slice A 19 c) (sgn s m) ∧ Below w.heap.size w w' := by
  have HS := Lib.hid hs
  have HM := Lib.hid hm
  clear hs hm
  have hbx := box2 w (U s).toArray (U m).toArray 23 23 _ rfl
  have r1 : RowB ((w.alloc (.cells (U s).toArray 23)).alloc (.cells (U m).toArray 23)) (w.heap.size + 1) 23 m := hbx.2.1
  clear hbx
  go_enter Tryd.func40, Tryd.ntmps40
  go_wp2_with (refine load_B rfl (.tmp 3) rfl (w.heap.size + 1) rfl 23 m r1 HM.out ?_)
  clear r1
  generalize hW1 : (w.alloc _).alloc _ = W1
  obtain ⟨h0, _, hb1, hz1⟩ := box2 w (U s).toArray (U m).toArray 23 23 W1 hW1
  clear hW1
  refine (rDigits_all m W1 HM.out).mono ?_
  rintro e W2 ⟨Ad, cd, rfl, hod, hb2⟩
  have hz2 := hb2.size
  have HR := Lib.hid (show RowB W2 w.heap.size 23 s from (hb2.block _ (by omega)).trans h0)
  have HD := Lib.hid (hod.il.keep (w' := W2) (S' := (· < W2.heap.size)) fun i hi => ⟨hi.2, rfl⟩)
  have HB2 := Lib.hid (hb1.trans (hb2.mono (by omega)))
  have HDL := Lib.hid (dgl_len m)
  have HDE := Lib.hid (dgl_le m)
  have OE := Lib.hid (ownD_empty W2)
  have hz2' : w.heap.size < W2.heap.size := by omega
  have KEEP := Lib.hid (show ∀ ww, Below W2.heap.size W2 ww → ww.rangeAt w.heap.size 0 (U s) ∧ IL ww (· < W2.heap.size) (dgl m) Ad cd from fun ww h => ⟨(HR.out.keep (h.block _ hz2')).range, HD.out.keep fun i hi => ⟨hi, h.block i hi⟩⟩)
  clear hod h0 hb1 hb2 hz1
  go_wp2_with fail
  go_loopw [6, 7] (fun v y wr => ∃ (k : Nat) (A : Option Addr) (c : Nat), v = .slice A k c ∧ y = .int .i64 k ∧ k ≤ 19 ∧ Hid (OwnD wr W2.heap.size (.slice A k c) (rc (fsts s 19) (dgl m) k)) ∧ Hid (Below W2.heap.size W2 wr)) (fun _ y _ => 19 - (intOf y).toNat)
  case atStart => exact ⟨0, _, _, rfl, rfl, by omega, OE, Lib.hid ((Below.refl _ _).alloc (Nat.le_refl _) _)⟩
  case round =>
    obtain ⟨k, A, c, rfl, rfl, hk, HO, HB⟩ := hrel
    have hz := HB.out.size
    by_cases hlt : k < 19
    · have HL := Lib.hid (rc_len (fsts s 19) (dgl m) k)
      have h5 := fst5_len s k
      have H5 := Lib.hid h5
      obtain ⟨d, hd⟩ : ∃ d, (dgl m)[k]? = some d := ⟨_, List.getElem?_eq_getElem (by rw [HDL.out]; exact hlt)⟩
      have hd3 := HDE.out d (List.mem_of_getElem? hd)
      have HF := Lib.hid (rc_at (fsts s 19) (dgl m) k d (fst5 s k) (fsts_at s k hlt) hd)
      have H6 := Lib.hid (sn_len d _ h5)
      obtain ⟨bd, od, rfl, hSd, _⟩ := HD.out.2.2 (by rw [HDL.out]; omega)
      have KC := Lib.hid (show ∀ ww, Below W2.heap.size W2 ww → ww.cell? ⟨bd, od + k, none⟩ = some (.int .i64 (d : Int)) from fun ww h => by
        obtain ⟨b', o', e, _, hc⟩ := (KEEP.out ww h).2.2.2 (by rw [HDL.out]; omega)
        injection e with e
        injection e with e1 e2
        subst e1 e2
        exact hc k d hd)
      clear h5 hd hSd
      go_wp2_with fail
      refine wp_region_noPanic ?_
      have h0 : Below W2.heap.size W2 wr.drew := HB.out.drew
      refine wp_region_held_drew (S := fun ww => Below W2.heap.size W2 ww) (by kernel_rfl) h0 (fun _ => ?_)
      refine tk_move 0 15 (.tmp 6) (.slice A k c) rfl (by kernel_rfl) (by kernel_rfl) (by kernel_rfl) (fun _ _ _ _ h => h) rfl rfl rfl rfl h0 ?_
      simp only [Act.put, List.setIfInBounds_toArray, List.set_cons_zero, List.set_cons_succ]
      refine tk_load 1 16 (.tmp 2) w.heap.size (0) s rfl (by kernel_rfl) (by kernel_rfl) (by kernel_rfl) (fun _ _ _ _ h => h) rfl rfl rfl rfl (fun ww h => (KEEP.out ww h).1) HS.out h0 ?_
      simp only [Act.put, List.setIfInBounds_toArray, List.set_cons_zero, List.set_cons_succ]
      refine tk_move 2 17 (.tmp 7) (.int .i64 k) rfl (by kernel_rfl) (by kernel_rfl) (by kernel_rfl) (fun _ _ _ _ h => h) rfl rfl rfl rfl h0 ?_
      simp only [Act.put, List.setIfInBounds_toArray, List.set_cons_zero, List.set_cons_succ]
      refine tk_move 4 19 (.tmp 5) (.slice (some ⟨bd, od, none⟩) 19 cd) rfl (by kernel_rfl) (by kernel_rfl) (by kernel_rfl) (fun _ _ _ _ h => h) rfl rfl rfl rfl h0 ?_
      simp only [Act.put, List.setIfInBounds_toArray, List.set_cons_zero, List.set_cons_succ]
      refine tk_move 5 20 (.tmp 7) (.int .i64 k) rfl (by kernel_rfl) (by kernel_rfl) (by kernel_rfl) (fun _ _ _ _ h => h) rfl rfl rfl rfl h0 ?_
      simp only [Act.put, List.setIfInBounds_toArray, List.set_cons_zero, List.set_cons_succ]
      refine tk_val 6 21 (.pointer (some ⟨bd, od + k, none⟩)) rfl (by kernel_rfl) (by kernel_rfl) (by kernel_rfl) (fun _ _ _ _ h => h) rfl rfl (fun w _ => ev_index_int (.tmp 19) (.tmp 20) bd od 19 cd k rfl rfl rfl hlt) h0 ?_
      simp only [Act.put, List.setIfInBounds_toArray, List.set_cons_zero, List.set_cons_succ]
      refine tk_val 7 22 (.int .i64 d) rfl (by kernel_rfl) (by kernel_rfl) (by kernel_rfl) (fun _ _ _ _ h => h) rfl rfl (fun ww h => ev_load_int (.tmp 21) bd (od + k) d rfl rfl (KC.out ww h)) h0 ?_
      simp only [Act.put, List.setIfInBounds_toArray, List.set_cons_zero, List.set_cons_succ]
      have HO0 := Lib.hid (show OwnD wr.drew W2.heap.size (.slice A k c) (rc (fsts s 19) (dgl m) k) from HO.out)
      have hs0 : wr.drew.heap.size = wr.heap.size := rfl
      generalize wr.drew = V0 at *
      refine lone 3 (by kernel_rfl) rfl (fun K hK => to_call 75 18 _ _ #[.agg (U s).toArray, .int .i64 k] _ rfl rfl rfl rfl enters_First (rFirst_all s k V0 HS.out (by omega)) (fun e w5 h5 => ⟨_, h5.1, ?_⟩))
      have hx5 := h0.trans (h5.2.mono h0.size)
      have HO5 := Lib.hid (HO0.out.step h5.2)
      refine hK _ _ hx5 ?_
      simp only [Act.put, List.setIfInBounds_toArray, List.set_cons_zero, List.set_cons_succ]
      clear hK h5
      refine lone 8 (by kernel_rfl) rfl (fun K hK => to_call 74 23 _ _ #[.agg (U (fst5 s k)).toArray, .int .i64 d] _ rfl rfl rfl rfl enters_Steps (rSteps_all (fst5 s k) d w5 H5.out (by omega)) (fun e w6 h6 => ⟨_, h6.1, ?_⟩))
      have hx6 := hx5.trans (h6.2.mono hx5.size)
      have HO6 := Lib.hid (HO5.out.step h6.2)
      refine hK _ _ hx6 ?_
      simp only [Act.put, List.setIfInBounds_toArray, List.set_cons_zero, List.set_cons_succ]
      clear hK h6
      generalize sn d (fst5 s k) = X at *
      generalize rc (fsts s 19) (dgl m) k = M at *
      have hxa := hx6.alloc hx6.size (.cells (U X).toArray 23)
      refine lone 9 (by kernel_rfl) rfl (fun K hK => to_bs1 24 (.tmp 23) X rfl rfl rfl rfl H6.out (hK _ _ hxa ?_))
      simp only [Act.put, List.setIfInBounds_toArray, List.set_cons_zero, List.set_cons_succ]
      have HOA := HO6.out.alloc (.cells (U X).toArray 23)
      have hone := DL.one (show RowB (w6.alloc (.cells (U X).toArray 23)) w6.heap.size 23 X from heap_alloc_new w6 _) H6.out
      refine lone 10 (by kernel_rfl) rfl (fun K hK => to_app 25 (.tmp 15) (.tmp 24) rfl rfl rfl W2.heap.size _ _ M [X] _ 1 rfl rfl HOA hone (by rw [HL.out]; simp; omega) hxa.size (fun A7 c7 w7 ho7 hg7 _ => ?_))
      have hx7 := below_ownD hxa hg7 HOA (Nat.le_refl _) hxa.size
      have HO7 := Lib.hid ho7
      refine hK _ _ hx7 ?_
      simp only [Act.put, List.setIfInBounds_toArray, List.set_cons_zero, List.set_cons_succ]
      refine tk_assign 11 6 (.tmp 25) (.slice A7 (M.length + [X].length) c7) rfl (by kernel_rfl) (by kernel_rfl) (by kernel_rfl) (fun _ _ _ _ h => h) rfl rfl rfl rfl hx7 ?_
      simp only [Act.put, List.setIfInBounds_toArray, List.set_cons_zero, List.set_cons_succ]
      refine wpAnyH_done (by kernel_rfl) (NoPanic.normal ?_) _
      have HB7 := Lib.hid hx7
      clear hx7 ho7 hg7 hK hone HOA hxa hx6 hx5 h0
      go_wp2_with fail
      go_roundw
      case rel => exact ⟨k + 1, A7, c7, by rw [HL.out]; rfl, rfl, by omega, Lib.hid (by rw [HF.out]; have h := HO7.out; rw [HL.out] at h; exact h), HB7⟩
      case measure => simp [intOf]; omega
    · obtain rfl : k = 19 := by omega
      go_wp2_with fail
      go_ret
      exact ⟨A, c, rfl, HO.out.low (by omega), HB2.out.trans (HB.out.mono (by omega))⟩

set_option maxRecDepth 100000 in
set_option maxHeartbeats 1600000 in
theorem rRecover_no (m : List UInt8) (n cap : Nat) (A : Option Addr) (w : World) (hn : n ≠ 19) (_hm : n ≤ 9223372036854775807) :
    Calls Tryd.prog 47 #[.agg (U m).toArray, .slice A n cap] w fun e w' => e = .returned (.tuple #[.agg (U z32).toArray, .int .i64 50]) ∧ Below w.heap.size w w' := by
  have hne : ((n : Int) != 19) = true := by
    have : ¬ ((n : Int) = 19) := by omega
    simpa using this
  have hbx := box2 w (U m).toArray (U (flb 32 [])).toArray 23 23 _ rfl
  have r1 : RowB ((w.alloc (.cells (U m).toArray 23)).alloc (.cells (U (flb 32 [])).toArray 23)) (w.heap.size + 1) 23 (flb 32 []) := hbx.2.1
  have r2 := r1.setRow z32
  have HB := Lib.hid hbx.2.2.1
  clear hbx hn
  go_enter Tryd.func47, Tryd.ntmps47
  go_wp2_with (refine store_B rfl (.tmp 4) (.tmp 12) rfl (w.heap.size + 1) (flb 32 []) z32 rfl rfl 23 r1 rfl (by simp [flb]) ?_)
  exact bodyPost_ret (res_two rfl _ _ _ _ _ _ rfl rfl r2 rfl) rfl ⟨rfl, below_setRow HB.out (by omega) _⟩

set_option maxRecDepth 100000 in
set_option maxHeartbeats 3200000 in
theorem rRecover_yes (m : List UInt8) (L : List (List UInt8)) (A0 : Option Addr) (cap : Nat) (w : World) (hm : m.length = 32) (hL : L.length = 19) (hl : DL w (· < w.heap.size) L A0 cap) :
    Calls Tryd.prog 47 #[.agg (U m).toArray, .slice A0 19 cap] w fun e w' => e = .returned (.tuple #[.agg (U (recF m L)).toArray, .int .i64 0]) ∧ Below w.heap.size w w' := by
  have HM := Lib.hid hm
  have HLL := Lib.hid hL
  have HLI := Lib.hid hl
  have hcap := hl.1
  have hcm : cap ≤ 9223372036854775807 := hl.2.1
  rw [hL] at hcap
  clear hm hL hl
  have hbx := box2 w (U m).toArray (U (flb 32 [])).toArray 23 23 _ rfl
  have r1 : RowB ((w.alloc (.cells (U m).toArray 23)).alloc (.cells (U (flb 32 [])).toArray 23)) w.heap.size 23 m := hbx.1
  clear hbx
  go_enter Tryd.func47, Tryd.ntmps47
  go_wp2_with (refine load_B rfl (.tmp 2) rfl w.heap.size rfl 23 m r1 HM.out ?_)
  clear r1
  generalize hW1 : (w.alloc _).alloc _ = W1
  obtain ⟨_, h1, hb1, hz1⟩ := box2 w (U m).toArray (U (flb 32 [])).toArray 23 23 W1 hW1
  clear hW1
  refine (rDigits_all m W1 HM.out).mono ?_
  rintro e W2 ⟨Ad, cd, rfl, hod, hb2⟩
  have hz2 := hb2.size
  have HR := Lib.hid (show RowB W2 (w.heap.size + 1) 23 (flb 32 []) from (hb2.block _ (by omega)).trans h1)
  have HD := Lib.hid (hod.il.keep (w' := W2) (S' := (· < W2.heap.size)) fun i hi => ⟨hi.2, rfl⟩)
  have HB2 := Lib.hid (hb1.trans (hb2.mono (by omega)))
  have HDL := Lib.hid (dgl_len m)
  have HDE := Lib.hid (dgl_le m)
  have OE := Lib.hid (ownD_empty W2)
  have hz2' : w.heap.size + 1 < W2.heap.size := by omega
  have KEEP := Lib.hid (show ∀ ww, Below W2.heap.size W2 ww → DL ww (· < w.heap.size) L A0 cap ∧ IL ww (· < W2.heap.size) (dgl m) Ad cd from fun ww h => ⟨HLI.out.keep fun i hi => ⟨hi, (h.block i (by omega)).trans (HB2.out.block i hi)⟩, HD.out.keep fun i hi => ⟨hi, h.block i hi⟩⟩)
  clear hod h1 hb1 hb2 hz1
  go_wp2_with fail
  go_loopw [7, 8] (fun v y wr => ∃ (k : Nat) (A : Option Addr) (c : Nat), v = .slice A k c ∧ y = .int .i64 k ∧ k ≤ 19 ∧ Hid (OwnD wr W2.heap.size (.slice A k c) (rc L (lft (dgl m)) k)) ∧ Hid (Below W2.heap.size W2 wr)) (fun _ y _ => 19 - (intOf y).toNat)
  case atStart => exact ⟨0, _, _, rfl, rfl, by omega, OE, Lib.hid ((Below.refl _ _).alloc (Nat.le_refl _) _)⟩
  case round =>
    obtain ⟨k, A, c, rfl, rfl, hk, HO, HB⟩ := hrel
    have hz := HB.out.size
    by_cases hlt : k < 19
    · have HLN := Lib.hid (rc_len L (lft (dgl m)) k)
      obtain ⟨x, hx⟩ : ∃ x, L[k]? = some x := ⟨_, List.getElem?_eq_getElem (by rw [HLL.out]; exact hlt)⟩
      have H5 := Lib.hid (HLI.out.2.2.2.1 x (List.mem_of_getElem? hx))
      obtain ⟨d, hd⟩ : ∃ d, (dgl m)[k]? = some d := ⟨_, List.getElem?_eq_getElem (by rw [HDL.out]; exact hlt)⟩
      have hd3 := HDE.out d (List.mem_of_getElem? hd)
      have HF := Lib.hid (rc_at L (lft (dgl m)) k (3 - d) x hx (by rw [lft, List.getElem?_map, hd]; rfl))
      have H6 := Lib.hid (sn_len (3 - d) _ H5.out)
      obtain ⟨bd, od, rfl, hSd, _⟩ := HD.out.2.2 (by rw [HDL.out]; omega)
      obtain ⟨bl, ol, rfl, hSl, _⟩ := HLI.out.2.2.2.2 (by rw [HLL.out]; omega)
      have KC := Lib.hid (show ∀ ww, Below W2.heap.size W2 ww → ww.cell? ⟨bd, od + k, none⟩ = some (.int .i64 (d : Int)) from fun ww h => by
        obtain ⟨b', o', e, _, hc⟩ := (KEEP.out ww h).2.2.2 (by rw [HDL.out]; omega)
        injection e with e
        injection e with e1 e2
        subst e1 e2
        exact hc k d hd)
      have KL := Lib.hid (show ∀ ww, Below W2.heap.size W2 ww → ww.rangeAt bl (ol + k * 32) (U x) from fun ww h => by
        obtain ⟨b', o', e, _, hc⟩ := (KEEP.out ww h).1.2.2.2.2 (by rw [HLL.out]; omega)
        injection e with e
        injection e with e1 e2
        subst e1 e2
        exact hc k x hx)
      have h3d : ((3 - d : Nat) : Int) = 3 - (d : Int) := by omega
      have H3D := Lib.hid h3d
      clear hx hd hSd hSl h3d
      go_wp2_with fail
      refine wp_region_noPanic ?_
      have h0 : Below W2.heap.size W2 wr.drew := HB.out.drew
      refine wp_region_held_drew (S := fun ww => Below W2.heap.size W2 ww) (by kernel_rfl) h0 (fun _ => ?_)
      refine tk_move 0 20 (.tmp 7) (.slice A k c) rfl (by kernel_rfl) (by kernel_rfl) (by kernel_rfl) (fun _ _ _ _ h => h) rfl rfl rfl rfl h0 ?_
      simp only [Act.put, List.setIfInBounds_toArray, List.set_cons_zero, List.set_cons_succ]
      refine tk_move 1 21 (.tmp 1) (.slice (some ⟨bl, ol, none⟩) 19 cap) rfl (by kernel_rfl) (by kernel_rfl) (by kernel_rfl) (fun _ _ _ _ h => h) rfl rfl rfl rfl h0 ?_
      simp only [Act.put, List.setIfInBounds_toArray, List.set_cons_zero, List.set_cons_succ]
      refine tk_move 2 22 (.tmp 8) (.int .i64 k) rfl (by kernel_rfl) (by kernel_rfl) (by kernel_rfl) (fun _ _ _ _ h => h) rfl rfl rfl rfl h0 ?_
      simp only [Act.put, List.setIfInBounds_toArray, List.set_cons_zero, List.set_cons_succ]
      refine tk_val 3 23 (.pointer (some ⟨bl, ol + k * 32, none⟩)) rfl (by kernel_rfl) (by kernel_rfl) (by kernel_rfl) (fun _ _ _ _ h => h) rfl rfl (fun w _ => ev_index (.tmp 21) (.tmp 22) bl ol 19 cap k rfl rfl rfl hlt) h0 ?_
      simp only [Act.put, List.setIfInBounds_toArray, List.set_cons_zero, List.set_cons_succ]
      refine tk_load 4 24 (.tmp 23) bl (ol + k * 32) x rfl (by kernel_rfl) (by kernel_rfl) (by kernel_rfl) (fun _ _ _ _ h => h) rfl rfl rfl rfl (fun ww h => KL.out ww h) H5.out h0 ?_
      simp only [Act.put, List.setIfInBounds_toArray, List.set_cons_zero, List.set_cons_succ]
      refine tk_move 5 25 (.tmp 6) (.slice (some ⟨bd, od, none⟩) 19 cd) rfl (by kernel_rfl) (by kernel_rfl) (by kernel_rfl) (fun _ _ _ _ h => h) rfl rfl rfl rfl h0 ?_
      simp only [Act.put, List.setIfInBounds_toArray, List.set_cons_zero, List.set_cons_succ]
      refine tk_move 6 26 (.tmp 8) (.int .i64 k) rfl (by kernel_rfl) (by kernel_rfl) (by kernel_rfl) (fun _ _ _ _ h => h) rfl rfl rfl rfl h0 ?_
      simp only [Act.put, List.setIfInBounds_toArray, List.set_cons_zero, List.set_cons_succ]
      refine tk_val 7 27 (.pointer (some ⟨bd, od + k, none⟩)) rfl (by kernel_rfl) (by kernel_rfl) (by kernel_rfl) (fun _ _ _ _ h => h) rfl rfl (fun w _ => ev_index_int (.tmp 25) (.tmp 26) bd od 19 cd k rfl rfl rfl hlt) h0 ?_
      simp only [Act.put, List.setIfInBounds_toArray, List.set_cons_zero, List.set_cons_succ]
      refine tk_val 8 28 (.int .i64 d) rfl (by kernel_rfl) (by kernel_rfl) (by kernel_rfl) (fun _ _ _ _ h => h) rfl rfl (fun ww h => ev_load_int (.tmp 27) bd (od + k) d rfl rfl (KC.out ww h)) h0 ?_
      simp only [Act.put, List.setIfInBounds_toArray, List.set_cons_zero, List.set_cons_succ]
      refine tk_val 9 29 (.int .i64 ((3 - d : Nat) : Int)) rfl (by kernel_rfl) (by kernel_rfl) (by kernel_rfl) (fun _ _ _ _ h => h) rfl rfl (fun w _ => by rw [H3D.out]; exact ev_sub (.const (.int .i64 3)) (.tmp 28) 3 d rfl rfl rfl (by omega) (by omega)) h0 ?_
      simp only [Act.put, List.setIfInBounds_toArray, List.set_cons_zero, List.set_cons_succ]
      have HO0 := Lib.hid (show OwnD wr.drew W2.heap.size (.slice A k c) (rc L (lft (dgl m)) k) from HO.out)
      have hs0 : wr.drew.heap.size = wr.heap.size := rfl
      generalize wr.drew = V0 at *
      refine lone 10 (by kernel_rfl) rfl (fun K hK => to_call 74 30 _ _ #[.agg (U x).toArray, .int .i64 ((3 - d : Nat) : Int)] _ rfl rfl rfl rfl enters_Steps (rSteps_all x (3 - d) V0 H5.out (by omega)) (fun e w6 h6 => ⟨_, h6.1, ?_⟩))
      have hx6 := h0.trans (h6.2.mono h0.size)
      have HO6 := Lib.hid (HO0.out.step h6.2)
      refine hK _ _ hx6 ?_
      simp only [Act.put, List.setIfInBounds_toArray, List.set_cons_zero, List.set_cons_succ]
      clear hK h6
      generalize sn (3 - d) x = X at *
      generalize rc L (lft (dgl m)) k = M at *
      have hxa := hx6.alloc hx6.size (.cells (U X).toArray 23)
      refine lone 11 (by kernel_rfl) rfl (fun K hK => to_bs1 31 (.tmp 30) X rfl rfl rfl rfl H6.out (hK _ _ hxa ?_))
      simp only [Act.put, List.setIfInBounds_toArray, List.set_cons_zero, List.set_cons_succ]
      have HOA := HO6.out.alloc (.cells (U X).toArray 23)
      have hone := DL.one (show RowB (w6.alloc (.cells (U X).toArray 23)) w6.heap.size 23 X from heap_alloc_new w6 _) H6.out
      refine lone 12 (by kernel_rfl) rfl (fun K hK => to_app 32 (.tmp 20) (.tmp 31) rfl rfl rfl W2.heap.size _ _ M [X] _ 1 rfl rfl HOA hone (by rw [HLN.out]; simp; omega) hxa.size (fun A7 c7 w7 ho7 hg7 _ => ?_))
      have hx7 := below_ownD hxa hg7 HOA (Nat.le_refl _) hxa.size
      have HO7 := Lib.hid ho7
      refine hK _ _ hx7 ?_
      simp only [Act.put, List.setIfInBounds_toArray, List.set_cons_zero, List.set_cons_succ]
      refine tk_assign 13 7 (.tmp 32) (.slice A7 (M.length + [X].length) c7) rfl (by kernel_rfl) (by kernel_rfl) (by kernel_rfl) (fun _ _ _ _ h => h) rfl rfl rfl rfl hx7 ?_
      simp only [Act.put, List.setIfInBounds_toArray, List.set_cons_zero, List.set_cons_succ]
      refine wpAnyH_done (by kernel_rfl) (NoPanic.normal ?_) _
      have HB7 := Lib.hid hx7
      clear hx7 ho7 hg7 hK hone HOA hxa hx6 h0
      go_wp2_with fail
      go_roundw
      case rel => exact ⟨k + 1, A7, c7, by rw [HLN.out]; rfl, rfl, by omega, Lib.hid (by rw [HF.out]; have h := HO7.out; rw [HLN.out] at h; exact h), HB7⟩
      case measure => simp [intOf]; omega
    · obtain rfl : k = 19 := by omega
      have hl := HO.out.dlw (rc_len L (lft (dgl m)) 19)
      have C := rKey_all (rc L (lft (dgl m)) 19) A c wr (by rw [rc_len]; omega) hl
      rw [rc_len, show pubk (rc L (lft (dgl m)) 19) = recF m L from rfl] at C
      have CC := Lib.hid C
      have HR5 := Lib.hid (HR.out.keep (HB.out.block _ (by omega)))
      clear C hl
      go_wp2_with fail
      refine CC.out.mono ?_
      rintro e w5 ⟨rfl, hb5⟩
      have r5 := HR5.out.keep (hb5.block (w.heap.size + 1) (by omega))
      have r6 := r5.setRow (recF m L)
      have HB5 := Lib.hid (HB2.out.trans ((HB.out.trans (hb5.mono hz)).mono (by omega)))
      clear hb5 CC
      go_wp2_with (refine store_B rfl (.tmp 4) (.tmp 34) rfl (w.heap.size + 1) (flb 32 []) (recF m L) rfl rfl 23 r5 (recF_len _ _) (by simp [flb]) ?_)
      exact bodyPost_ret (res_two rfl _ _ _ _ _ _ rfl rfl r6 (recF_len _ _)) rfl ⟨rfl, below_setRow HB5.out (by omega) _⟩
end
section
set_option maxRecDepth 100000
open Go.RowKit

/-- what is signed leads to the public key -/
theorem recF_sgn (s m : List UInt8) : recF m (sgn s m) = pubF s := by
  unfold recF pubF
  congr 1
  unfold rc
  apply List.map_congr_left
  intro i hi
  have hi := List.mem_range.1 hi
  have h1 : (sgn s m).getD i [] = sn ((dgl m).getD i 0) ((fsts s 19).getD i []) := by
    unfold sgn rc
    rw [List.getD_eq_getElem?_getD, List.getElem?_map, List.getElem?_range hi]
    rfl
  obtain ⟨d, hd⟩ : ∃ d, (dgl m)[i]? = some d := ⟨_, List.getElem?_eq_getElem (by rw [dgl_len]; exact hi)⟩
  have hd3 := dgl_le m d (List.mem_of_getElem? hd)
  have h2 : (lft (dgl m)).getD i 0 = 3 - d := by
    rw [List.getD_eq_getElem?_getD, lft, List.getElem?_map, hd]
    rfl
  have h3 : (List.replicate 19 3).getD i 0 = 3 := by
    rw [List.getD_eq_getElem?_getD, List.getElem?_replicate, if_pos hi]
    rfl
  rw [h1, h2, h3, sn_add, List.getD_eq_getElem?_getD, hd]
  congr 1
  simp
  omega
end
end Go.Proofs.YteicbdjennjcdaaDoor
