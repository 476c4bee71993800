/- Several texts joined: parts MA MB MC. -/
import Derived.Test.YteicbdjennjcdaaDoorW03
import Derived.IntWalk
import Derived.Laws.Bits64
import Derived.Test.YteicbdjennjcdaaDoorW09
import Derived.Test.YteicbdjennjcdaaDoorW07
import Derived.Test.YteicbdjennjcdaaDoorW08
import Derived.ArgAppend
import Derived.Test.YteicbdjennjcdaaDoorW06
import Derived.Maps.OwnOps
namespace Go.Proofs.YteicbdjennjcdaaDoor
section
set_option maxRecDepth 100000
open Go.RowKit

def by4 (n : Int) : List UInt8 := [UInt8.ofNat (n / 2 ^ 24 % 256).toNat, UInt8.ofNat (n / 2 ^ 16 % 256).toNat, UInt8.ofNat (n / 2 ^ 8 % 256).toNat, UInt8.ofNat (n % 256).toNat]
theorem by4_len (n : Int) : (by4 n).length = 4 := rfl
theorem lob (n : Int) : ((UInt8.ofNat (n % 256).toNat).toNat : Int) = n % 256 := by
  rw [UInt8.toNat_ofNat']
  omega
theorem sz4 : (Tryd.prog.info? 59).map (·.size) = some 4 := by kernel_rfl
theorem load_4 {ops : Array Oper} {rest : List Oper} {o : Oper} {a : Act} {w : World} {Q : Exit → Act → World → Prop} (hgd : o.guard = none) (x : Operand) (ho : o.op = .load 59 x)
    (g : Nat) (hx : a.eval x = .pointer (some ⟨g, 0, none⟩)) (t : TypeId) (l : List UInt8) (h : RowB w g t l) (hl : l.length = 4)
    (hK : wpList Tryd.prog ops Q rest (a.put o.dst (.agg (U l).toArray)) w) : wpList Tryd.prog ops Q (o :: rest) a w :=
  wpList_load_row hgd 59 x ho g hx t _ (0, 0) _ h Tryd.underlying59 rfl (by rw [sz4, U_size, hl]) hK
theorem store_4 {ops : Array Oper} {rest : List Oper} {o : Oper} {a : Act} {w : World} {Q : Exit → Act → World → Prop} (hgd : o.guard = none) (x y : Operand) (ho : o.op = .store 59 x y)
    (g : Nat) (l l' : List UInt8) (hx : a.eval x = .pointer (some ⟨g, 0, none⟩)) (hy : a.eval y = .agg (U l').toArray) (t : TypeId) (h : RowB w g t l) (hl : l'.length = 4) (hl0 : l.length = 4)
    (hK : wpList Tryd.prog ops Q rest (a.put o.dst undef) (w.setRow g (U l').toArray)) : wpList Tryd.prog ops Q (o :: rest) a w :=
  wpList_store_row hgd 59 x y ho g _ hx hy t _ h (by rw [sz4, U_size, hl]) (by rw [U_size, U_size, hl, hl0]) (U_ones l') hK
theorem store_4S {ops : Array Oper} {rest : List Oper} {o : Oper} {a : Act} {w : World} {Q : Exit → Act → World → Prop} (hgd : o.guard = none) (x y : Operand) (ho : o.op = .store 59 x y)
    (g : Nat) (l : List UInt8) (hx : a.eval x = .pointer (some ⟨g, 0, none⟩)) (hy : a.eval y = .agg (U l).toArray) (t : TypeId) (h : RowB w g t l) (hl : l.length = 4)
    (hK : wpList Tryd.prog ops Q rest (a.put o.dst undef) w) : wpList Tryd.prog ops Q (o :: rest) a w :=
  store_4 hgd x y ho g l l hx hy t h hl hl (by rw [setRow_self w g _ t _ h]; exact hK)
theorem res_4 {fn : Func} {p : Tmp} (h : fn.results = #[.cell p 59]) (tmps : Array Value) (w : World) (g : Nat) (t : TypeId) (l : List UInt8)
    (hp : tmps.getD p undef = .pointer (some ⟨g, 0, none⟩)) (hg : RowB w g t l) (hl : l.length = 4) :
    (results fn tmps).run Tryd.prog w = .ok (.agg (U l).toArray) w :=
  results_cell_row h tmps w g t _ (0, 0) _ hp hg Tryd.underlying59 rfl (by rw [sz4, U_size, hl])

set_option maxHeartbeats 1600000 in
theorem written_all (n : Int) (w : World) (_h1 : -9223372036854775808 ≤ n) (_h2 : n ≤ 9223372036854775807) :
    Calls Tryd.prog 41 #[.int .i64 n] w fun e w' => e = .returned (.agg (U (by4 n)).toArray) ∧ Below w.heap.size w w' := by
  have hz : RowB (w.alloc (.cells (U (flb 4 ((by4 n).take 0))).toArray 59)) w.heap.size 59 (flb 4 ((by4 n).take 0)) := heap_alloc_new w _
  have HZ := Lib.hid hz
  clear hz
  go_enter Tryd.func41, Tryd.ntmps41
  go_wp2_with fail
  go_loopw [4] (fun x wr => ∃ k : Nat, x = .int .i64 k ∧ k ≤ 4 ∧ RowB wr w.heap.size 59 (flb 4 ((by4 n).take k)) ∧ Below w.heap.size w wr) (fun x _ => 4 - (intOf x).toNat)
  case atStart => exact ⟨0, rfl, by omega, HZ.out, (Below.refl _ _).alloc (Nat.le_refl _) _⟩
  case round =>
    obtain ⟨k, rfl, hk, hrow, hbl⟩ := hrel
    by_cases hlt : k < 4
    · have hlen : ((by4 n).take k).length = k := by rw [List.length_take, by4_len]; omega
      have h0 := flb_next 4 ((by4 n).take k) (by rw [hlen]; exact hlt)
      rw [hlen] at h0
      have hc2 := hrow.cell h0
      have hf2 := hrow.frozen k
      have HROW := Lib.hid hrow
      have HBL := Lib.hid hbl
      have HN : Hid (∀ x : UInt8, (by4 n)[k]? = some x → RowB (wr.setCell ⟨w.heap.size, k, none⟩ (.int .u8 x.toNat)) w.heap.size 59 (flb 4 ((by4 n).take (k + 1)))) := Lib.hid fun x hx => by
        have h := RowB.next hrow (by rw [hlen]; exact hlt) x
        rw [hlen] at h
        rwa [show (by4 n).take (k + 1) = (by4 n).take k ++ [x] from by rw [List.take_add_one, hx]; rfl]
      clear hrow hbl h0 hlen
      have b1 : (k : Int) < 4 := by omega
      obtain rfl | rfl | rfl | rfl : k = 0 ∨ k = 1 ∨ k = 2 ∨ k = 3 := by omega
      all_goals
        go_wp2_with fail
        go_roundw
        case rel =>
          refine ⟨_, rfl, ?_, ?_, HBL.out.setCell (Nat.le_refl _) _⟩
          · decide
          · have := HN.out _ rfl
            rw [lob] at this
            simpa using this
        case measure => simp [intOf]
    · obtain rfl : k = 4 := by omega
      have hfin : RowB wr w.heap.size 59 (by4 n) := hrow
      have HBL := Lib.hid hbl
      clear hrow hbl
      go_wp2_with (first | (refine load_4 rfl (.tmp 2) rfl w.heap.size rfl 59 (by4 n) hfin (by4_len _) ?_) | (refine store_4S rfl (.tmp 2) (.tmp 16) rfl w.heap.size (by4 n) rfl rfl 59 hfin (by4_len _) ?_))
      exact bodyPost_ret (res_4 rfl _ _ _ _ _ rfl hfin (by4_len _)) rfl ⟨rfl, HBL.out⟩

set_option maxHeartbeats 1600000 in
theorem rbytes_all (n : Int) (w : World) (_h1 : -9223372036854775808 ≤ n) (_h2 : n ≤ 9223372036854775807) :
    Calls Tryd.prog 44 #[.int .i64 n] w fun e w' => e = .returned (.slice (some ⟨w.heap.size, 0, none⟩) 4 4) ∧ RowB w' w.heap.size 5 (by4 n) ∧ Below w.heap.size w w' := by
  go_enter Tryd.func44, Tryd.ntmps44
  go_wp2_with fail
  go_ret
  refine ⟨rfl, ?_, (Below.refl _ _).alloc (Nat.le_refl _) _⟩
  have hz : RowB (w.alloc (.cells (U (by4 n)).toArray 5)) w.heap.size 5 (by4 n) := heap_alloc_new w _
  have e : (U (by4 n)).toArray = #[Value.int IntKind.u8 (IntKind.u64.wrap n / 16777216 % 256), Value.int IntKind.u8 (IntKind.u64.wrap n / 65536 % 256), Value.int IntKind.u8 (IntKind.u64.wrap n / 256 % 256), Value.int IntKind.u8 (IntKind.u64.wrap n % 256)] := by
    simp only [U, by4, List.map_cons, List.map_nil, lob, IntKind.wrap_u64]
    rw [show n % 18446744073709551616 / 16777216 % 256 = n / 2 ^ 24 % 256 by omega, show n % 18446744073709551616 / 65536 % 256 = n / 2 ^ 16 % 256 by omega, show n % 18446744073709551616 / 256 % 256 = n / 2 ^ 8 % 256 by omega, show n % 18446744073709551616 % 256 = n % 256 by omega]
  rw [e] at hz
  exact hz
end
section
set_option maxRecDepth 100000
open Go.RowKit

/-- the seed of a leaf -/
def sdK (s : List UInt8) (n : Int) : List UInt8 := tagd leafT.data.toList (s ++ by4 n)
theorem sdK_len (s : List UInt8) (n : Int) : (sdK s n).length = 32 := tagd_len _ _
theorem enters_Tagged : Enters Tryd.prog 42 := enters_of Tryd.func42 (by kernel_rfl) rfl
theorem ev_arr4 {o : Oper} {a : Act} {w : World} (x : Operand) (g : Nat) (ho : o.op = .slice 59 x none none none) (hx : a.eval x = .pointer (some ⟨g, 0, none⟩)) :
    (execOp a.eval o).run Tryd.prog w = .ok (.value (.slice (some ⟨g, 0, none⟩) 4 4)) w := by
  unfold execOp
  simp only [ho, hx, Option.map]
  go_simp
/-- append onto a full slice of bytes: new memory -/
theorem to_grow {ops : Array Oper} {o : Oper} {a : Act} {K : Act → World → Prop} {Q : Exit → Act → World → Prop} {E : Prop} {w : World} (n : Nat) (hgd : o.guard = none) (s x : Operand)
    (ho : o.op = .call { callee := .builtin .append, args := #[s, x], argTypes := #[62, 62] }) (hdst : o.dst = some n)
    (g b m c : Nat) (t t' : TypeId) (l l' : List UInt8) (hs : a.eval s = .slice (some ⟨g, 0, none⟩) m m) (hx : a.eval x = .slice (some ⟨b, 0, none⟩) c c) (hm : l.length = m) (hc : l'.length = c) (hpos : 0 < c) (h1 : RowB w g t l) (h2 : RowB w b t' l')
    (hlen : m + c ≤ 1000000)
    (h : ∀ A' c' w', Own w' w.heap.size (.slice A' (l.length + l'.length) c') (l ++ l') → Below w.heap.size w w' → K (a.put (some n) (.slice A' (l.length + l'.length) c')) w') : if Region.wanted o (yielded ops a.tmps) = true then Oper.wp Tryd.prog o a w K Q else E := by
  have hw : Region.wanted o (yielded ops a.tmps) = true := by simp [Region.wanted, hgd]
  rw [if_pos hw]
  obtain ⟨i, hi, hz0, hz1, hz2⟩ := info_parts info_u8
  obtain ⟨v', w', hrun, k1, k2⟩ := run_append_arg_grows (P := Tryd.prog) w 62 o.type 5 i (.int .u8 0) 1 1 Tryd.underlying62 hi hz0 hz1 hz2 rfl (by omega) ⟨g, 0, none⟩ m m (U l) (by rw [U_length, hm, Nat.mul_one])
    (fun j u hu => by rw [Go.WideShapes.add_plain, Nat.zero_add, cell_of_row w g j _ _ _ h1]; simpa using hu)
    ⟨b, 0, none⟩ c c (U l') (by rw [U_length, hc, Nat.mul_one])
    (fun j u hu => by rw [Go.WideShapes.add_plain, Nat.zero_add, cell_of_row w b j _ _ _ h2]; simpa using hu) (by omega) (by simp only [maxLen]; omega) (by omega)
  have hown : Own w' w.heap.size v' (l ++ l') := by
    unfold Own
    rw [List.length_append, U_append, hm, hc]
    exact k1
  obtain ⟨A', c', hv, _⟩ := hown.byt
  rw [List.length_append] at hv
  subst hv
  have := h A' c' w' hown ((Below.refl _ _).grown k2 (Nat.le_refl _) (fun k hk => by cases hk))
  unfold Oper.wp
  simp [execOp, ho, resolve, invoke, builtin, hs, hx, hrun, Result.andThen]
  show K (a.put o.dst _) _
  rw [hdst]
  exact this
theorem own_dlw {w : World} {b n c : Nat} {A : Option Addr} {l : List UInt8} (h : Own w b (.slice A n c) l) : Byt w (· < w.heap.size) l A c := by
  obtain ⟨A', c', e, hd⟩ := h.byt
  injection e with e1 _ e3
  subst e1 e3
  exact hd.keep fun i hi => ⟨hi.2, rfl⟩

set_option maxHeartbeats 3200000 in
theorem Seed_all (s : List UInt8) (n : Int) (w : World) (hs : s.length = 32) (h1 : -9223372036854775808 ≤ n) (h2 : n ≤ 9223372036854775807) (hk : KR w Kt) :
    Calls Tryd.prog 16 #[.agg (U s).toArray, .int .i64 n] w fun e w' => e = .returned (.agg (U (sdK s n)).toArray) ∧ Below w.heap.size w w' := by
  have HS := Lib.hid hs
  have HK := Lib.hid hk
  have hlt0 := hk.lt
  clear hs hk
  go_enter Tryd.func16, Tryd.ntmps16
  go_wp2_with fail
  generalize hW1 : (w.alloc _).alloc _ = W1
  obtain ⟨k0, k1, hb1, hz1⟩ := box2 w (U s).toArray (U (flb 32 [])).toArray 23 23 W1 hW1
  clear hW1
  refine (written_all n W1 h1 h2).mono ?_
  rintro e w2 ⟨rfl, hb2⟩
  have hz2 := hb2.size
  have n4 : RowB (w2.alloc (.cells (U (flb 4 [])).toArray 59)) w2.heap.size 59 (flb 4 []) := heap_alloc_new w2 _
  go_wp2_with (refine store_4 rfl (.tmp 5) (.tmp 7) rfl w2.heap.size (flb 4 []) (by4 n) rfl rfl 59 n4 rfl rfl ?_)
  have HG := Lib.hid (show ∀ W5, (w2.alloc (.cells (U (flb 4 [])).toArray 59)).setRow w2.heap.size (U (by4 n)).toArray = W5 → RowB W5 w2.heap.size 59 (by4 n) ∧ Below w2.heap.size w2 W5 from fun W5 h => by
    subst h
    exact ⟨n4.setRow (by4 n), below_setRow ((Below.refl _ _).alloc (Nat.le_refl _) _) (Nat.le_refl _) _⟩)
  generalize hW5 : (w2.alloc _).setRow _ _ = W5
  obtain ⟨n5, hb5⟩ := HG.out W5 hW5
  clear n4 HG hW5
  have hbW := hb1.trans ((hb2.trans (hb5.mono hz2)).mono (by omega))
  have KEEP := Lib.hid (show ∀ ww, Below W5.heap.size W5 ww → RowB ww w.heap.size 23 s ∧ RowB ww (w.heap.size + 1) 23 (flb 32 []) ∧ RowB ww w2.heap.size 59 (by4 n) ∧ KR ww Kt ∧ Below w.heap.size w ww from fun ww h =>
    ⟨(h.block _ (by have := hb5.size; omega)).trans ((hb5.block _ (by omega)).trans ((hb2.block _ (by omega)).trans k0)), (h.block _ (by have := hb5.size; omega)).trans ((hb5.block _ (by omega)).trans ((hb2.block _ (by omega)).trans k1)), n5.keep (h.block _ n5.lt), HK.out.keep ((h.block 0 (by have := hbW.size; omega)).trans (hbW.block 0 hlt0)), hbW.trans (h.mono hbW.size)⟩)
  have STEP := Lib.hid (show ∀ ww w', Below W5.heap.size W5 ww → Below ww.heap.size ww w' → Below W5.heap.size W5 w' from fun ww w' h1 h2 => h1.trans (h2.mono h1.size))
  have hzw : w.heap.size + 1 < W5.heap.size := by have := hb5.size; omega
  have hbx : Below W5.heap.size W5 W5.drew := (Below.refl _ _).drew
  clear k0 k1 hb1 hz1 hb2 hz2 n5 hb5 hbW
  refine wp_region_noPanic ?_
  refine wp_region_held_drew (S := fun _ => True) (by kernel_rfl) trivial (fun h0 => ?_)
  refine tk_val 0 8 (.slice (some ⟨w.heap.size, 0, none⟩) 32 32) rfl (by kernel_rfl) (by kernel_rfl) (by kernel_rfl) (fun _ _ _ _ h => h) rfl rfl (fun _ _ => ev_arr (.tmp 2) _ rfl rfl) h0 ?_
  simp only [Act.put, List.setIfInBounds_toArray, List.set_cons_zero, List.set_cons_succ]
  refine tk_val 1 9 (.slice (some ⟨w2.heap.size, 0, none⟩) 4 4) rfl (by kernel_rfl) (by kernel_rfl) (by kernel_rfl) (fun _ _ _ _ h => h) rfl rfl (fun _ _ => ev_arr4 (.tmp 5) _ rfl rfl) h0 ?_
  simp only [Act.put, List.setIfInBounds_toArray, List.set_cons_zero, List.set_cons_succ]
  clear h0
  generalize W5.drew = V0 at hbx ⊢
  refine lone 2 (by kernel_rfl) rfl (fun K hK => to_grow 10 rfl (.tmp 8) (.tmp 9) rfl rfl w.heap.size w2.heap.size 32 4 23 59 s (by4 n) rfl rfl HS.out rfl (by omega) (KEEP.out _ hbx).1 (KEEP.out _ hbx).2.2.1 (by omega) (fun A c w6 hO hb6 => ?_))
  have hx6 := STEP.out _ _ hbx hb6
  refine hK _ _ trivial ?_
  simp only [Act.put, List.setIfInBounds_toArray, List.set_cons_zero, List.set_cons_succ]
  clear hK
  have hl6 : (s ++ by4 n).length = s.length + (by4 n).length := List.length_append
  have C := tagged_all leafT (s ++ by4 n) A c w6 (by decide) (by rw [hl6, HS.out, by4_len]; omega) (own_dlw hO) (KEEP.out _ hx6).2.2.2.1
  rw [hl6] at C
  refine lone 3 (by kernel_rfl) rfl (fun K hK => to_call 42 11 _ _ #[.string leafT, .slice A (s.length + (by4 n).length) c] _ rfl rfl rfl rfl enters_Tagged (C) (fun e w7 hq => ?_))
  refine ⟨_, hq.1, ?_⟩
  have hx7 := STEP.out _ _ hx6 hq.2
  refine hK _ _ trivial ?_
  simp only [Act.put, List.setIfInBounds_toArray, List.set_cons_zero, List.set_cons_succ]
  clear hK hq
  have R7 := (KEEP.out _ hx7).2.1
  have R8 := R7.setRow (sdK s n)
  have hfin := (KEEP.out _ hx7).2.2.2.2
  refine lone 4 (by kernel_rfl) rfl (fun K hK => to_store (.tmp 4) (.tmp 11) rfl rfl rfl (w.heap.size + 1) (flb 32 []) (sdK s n) rfl rfl R7 (by simp [flb]) (sdK_len s n) ?_)
  refine hK _ _ trivial ?_
  refine wpAnyH_done (by kernel_rfl) (NoPanic.normal ?_) _
  have HF := Lib.hid (below_setRow hfin (Nat.le_succ _) (U (sdK s n)).toArray)
  clear hfin hx6 hx7 C hl6 hK
  go_wp2_with fail
  exact bodyPost_ret (res_B rfl _ _ _ _ _ rfl R8 (sdK_len _ _)) rfl ⟨rfl, HF.out⟩

set_option maxHeartbeats 3200000 in
theorem rSeed_all (s : List UInt8) (n : Int) (w : World) (hs : s.length = 32) (h1 : -9223372036854775808 ≤ n) (h2 : n ≤ 9223372036854775807) :
    Calls Tryd.prog 17 #[.agg (U s).toArray, .int .i64 n] w fun e w' => e = .returned (.agg (U (sdK s n)).toArray) ∧ Below w.heap.size w w' := by
  have HX := Lib.hid hs
  clear hs
  obtain ⟨h0, h1', hb1, hz1⟩ := box2 w (U s).toArray (U (flb 32 [])).toArray 23 23 _ rfl
  have oe := own_empty ((w.alloc (.cells (U s).toArray 23)).alloc (.cells (U (flb 32 [])).toArray 23))
  have bx := ((show RowB _ w.heap.size 23 s from h0).b32 HX.out).keep (w' := ((w.alloc (.cells (U s).toArray 23)).alloc (.cells (U (flb 32 [])).toArray 23)).alloc (.cells #[] 5)) (S' := (· < w.heap.size + 2)) fun j hj => ⟨by omega, Below.heap_alloc _ _ j (by omega)⟩
  rw [hz1] at oe
  have OE := Lib.hid oe
  have BX := Lib.hid bx
  have HB2 := Lib.hid (hb1.alloc hb1.size (.cells #[] 5))
  have R1 := Lib.hid (show RowB (((w.alloc (.cells (U s).toArray 23)).alloc (.cells (U (flb 32 [])).toArray 23)).alloc (.cells #[] 5)) (w.heap.size + 1) 23 (flb 32 []) from (Below.heap_alloc _ _ _ (by omega)).trans h1')
  have HZ := Lib.hid (show (((w.alloc (.cells (U s).toArray 23)).alloc (.cells (U (flb 32 [])).toArray 23)).alloc (.cells #[] 5)).heap.size = w.heap.size + 3 by rw [World.size_alloc, hz1])
  have HZ2 := Lib.hid (Nat.le_of_eq HZ.out.symm)
  have HZ3 := Lib.hid (Nat.le_trans (show w.heap.size + 2 ≤ w.heap.size + 3 by omega) HZ2.out)
  clear h0 h1' hb1 hz1 oe bx
  go_enter Tryd.func17, Tryd.ntmps17
  go_wp2_with (first
    | (at_builtin; refine app_byt rfl (.tmp 5) (.tmp 6) rfl (w.heap.size + 2) _ _ _ _ [] s rfl (by rw [HX.out]; rfl) OE.out BX.out (by rw [HX.out]; simp) HZ3.out ?_; intro v3 w3 ho3 hg3; rw [List.nil_append] at ho3; obtain ⟨A3, c3, e3⟩ := ho3.slice; subst e3; have HB3 := Lib.hid (below_own HB2.out hg3 OE.out (by omega) (Nat.le_trans (by omega) HZ2.out)); have HR3 := Lib.hid (R1.out.grown hg3 (fun e => by have := (World.ownsRow.lt OE.out _ e).1; omega)); have hsz3 := Nat.le_trans HZ2.out hg3.size; have HO3 := Lib.hid ho3; clear ho3 hg3))
  refine (rbytes_all n w3 h1 h2).mono ?_
  rintro e w4 ⟨rfl, hr4, hb4⟩
  have HBY := Lib.hid (hr4.byt (by simp only [maxLen, by4_len]; omega))
  have HO4 := Lib.hid (HO3.out.below hb4 (Nat.le_refl _))
  have HB4 := Lib.hid (HB3.out.trans (hb4.mono HB3.out.size))
  have HR4 := Lib.hid (HR3.out.keep (hb4.block _ (by omega)))
  have hsz4 := Nat.le_trans hsz3 hb4.size
  clear hr4 hb4
  go_wp2_with (first
    | (at_builtin; refine app_byt rfl (.tmp 7) (.tmp 9) rfl (w.heap.size + 2) _ _ _ _ s (by4 n) rfl rfl HO4.out HBY.out (by rw [HX.out, by4_len]; omega) (by omega) ?_; intro v5 w5 ho5 hg5; obtain ⟨A5, c5, e5, hy5⟩ := ho5.byt; subst e5; have HY5 := Lib.hid hy5; have HB5 := Lib.hid (below_own HB4.out hg5 HO4.out (by omega) (by omega)); have HR5 := Lib.hid (HR4.out.grown hg5 (fun e => by have := (World.ownsRow.lt HO4.out _ e).1; omega)); clear ho5 hg5 hy5))
  have C := rtagged_all leafT (s ++ by4 n) A5 c5 w5 (by decide) (by rw [List.length_append, HX.out, by4_len]; omega) (HY5.out.keep fun j hj => ⟨hj.2, rfl⟩)
  rw [show (s ++ by4 n).length = s.length + 4 from List.length_append] at C
  refine C.mono ?_
  rintro e w6 ⟨rfl, hb6⟩
  have r5 := HR5.out.keep (hb6.block _ HR5.out.lt)
  have r6 := r5.setRow (sdK s n)
  have HB6 := Lib.hid (HB5.out.trans (hb6.mono HB5.out.size))
  clear hb6
  go_wp2_with (refine store_B rfl (.tmp 4) (.tmp 11) rfl (w.heap.size + 1) (flb 32 []) (sdK s n) rfl rfl 23 r5 (sdK_len _ _) (by simp [flb]) ?_)
  exact bodyPost_ret (res_B rfl _ _ _ _ _ rfl r6 (sdK_len _ _)) rfl ⟨rfl, below_setRow HB6.out (by omega) _⟩
end
section
set_option maxRecDepth 100000
open Go.RowKit Go.Shelf

attribute [local go_sem] Oper.semAt_some

/-- the public keys of the first leaves -/
def pubs (s : List UInt8) (n : Nat) : List (List UInt8) := (List.range n).map fun (i : Nat) => pubF (sdK s (i : Int))
theorem pubs_len (s : List UInt8) (n : Nat) : (pubs s n).length = n := by simp [pubs]
theorem pubs_succ (s : List UInt8) (n : Nat) : pubs s (n + 1) = pubs s n ++ [pubF (sdK s (n : Int))] := by simp [pubs, List.range_succ]
theorem pubs_pre (s : List UInt8) (k m : Nat) (h : k ≤ m) : pubs s k <+: pubs s m := by
  obtain ⟨j, rfl⟩ : ∃ j, m = k + j := ⟨m - k, by omega⟩
  clear h
  induction j with
  | zero => exact List.prefix_refl _
  | succ j ih => rw [← Nat.add_assoc, pubs_succ]; exact ih.trans (List.prefix_append _ _)
theorem pubs_dig (s : List UInt8) (n : Nat) : ∀ d ∈ pubs s n, d.length = 32 := by
  intro d hd
  obtain ⟨i, _, rfl⟩ := List.mem_map.1 hd
  exact pubF_len _

set_option maxHeartbeats 4000000 in
theorem leaves1_in (n : Nat) (hn : 2 ≤ n) (l b1 b2 : Nat) (S : Nat → Prop) (s : List UInt8) (m : Nat) (hs : s.length = 32) (hm : m ≤ 1000000) (J Jx : List (List UInt8) → World → Prop)
    (hY : ∀ pre x W, J pre W → pre.length < m → YieldAt Fence.wide (n - 1) Tryd.prog l (ED x) W fun e W' =>
      (e = .returned (.bool true) ∧ J (pre ++ [x]) W' ∧ KS S W W') ∨ (e = .returned (.bool false) ∧ Jx (pre ++ [x]) W'))
    (hJd : ∀ pre W W', J pre W → Below W.heap.size W W' → J pre W')
    (W : World) (hS : ∀ i, S i → i < W.heap.size) (_hb1 : S b1) (hb2 : S b2) (h0n : S 0) (h1 : W.cell? ⟨b1, 0, none⟩ = some (.int .i64 (m : Int))) (h2 : RowB W b2 23 s) (hk : KR W Kt) (h0 : J [] W) :
    CallsIn Fence.wide n Tryd.prog 95 #[.func (.yield l) #[] #[], .pointer (some ⟨b1, 0, none⟩), .pointer (some ⟨b2, 0, none⟩)] W fun e W' => (∃ v, e = .returned v) ∧
      ((∃ ys, ys = pubs s m ∧ J ys W') ∨ (∃ pre, pre <+: pubs s m ∧ Jx pre W')) := by
  have H1 := Lib.hid h1
  have H2 := Lib.hid h2
  have HK := Lib.hid hk
  have HS := Lib.hid hs
  clear h1 h2 hk hs
  refine callsIn_of_wp Tryd.func95 rfl trivial ?_ rfl
  simp only [Tryd.ntmps95, List.size_toArray, List.length_cons, List.length_nil, Nat.reduceAdd, Nat.reduceSub, Array.replicate_succ, Array.replicate_zero, List.push_toArray, List.append_toArray, List.nil_append, List.cons_append]
  have c1 := H1.out
  gi_wp2
  clear c1
  gi_loopw [6] (fun x wr => ∃ (k : Nat), x = .int .i64 k ∧ k ≤ m ∧ Hid (KS S W wr) ∧ J (pubs s k) wr)
    (fun x _ => m - (intOf x).toNat)
  case atStart => exact ⟨0, rfl, by omega, Lib.hid (KS.refl _ _), h0⟩
  case round =>
    obtain ⟨k, rfl, hk, HB, hJ⟩ := hrel
    by_cases hlt : k < m
    · have hz0 := HB.out.lt h0n (hS _ h0n)
      have hr2 : RowB wr b2 23 s := (HB.out b2 hb2).trans H2.out
      have hrg := hr2.range
      have hkr := HK.out.keep (HB.out 0 h0n)
      have C := Seed_all s k wr HS.out (by omega) (by omega) hkr
      have CC := Lib.hid ((callsIn_wide (n := n - 1)).2 C)
      clear C
      have b5 : (k : Int) < m := by omega
      gi_wp2_with (refine in_load rfl (.tmp 2) rfl b2 0 s rfl hrg HS.out ?_)
      refine ⟨trivial, fun _ => (by omega), ?_⟩
      gi_at_call 16
      (with_reducible refine CC.out.mono ?_)
      rintro e w5 ⟨rfl, hb5⟩
      have hz5 := hb5.size
      have C := Public_all (sdK s k) w5 (sdK_len _ _) (hkr.keep (hb5.block 0 hz0))
      have CP := Lib.hid ((callsIn_wide (n := n - 1)).2 C)
      clear C CC hrg hr2
      gi_wp2
      refine ⟨trivial, fun _ => (by omega), ?_⟩
      gi_at_call 27
      (with_reducible refine CP.out.mono ?_)
      rintro e w6 ⟨rfl, hb6⟩
      have hb7 := hb5.trans (hb6.mono hz5)
      have hJ2 := hJd _ wr w6 hJ hb7
      have HBQ := Lib.hid (HB.out.trans (ks_below hb7 fun i hi => HB.out.lt hi (hS i hi)))
      clear CP hb5 hb6 hz5 hb7
      obtain ⟨fn, tmps, assign, body, hy, hR⟩ := hY (pubs s k) (pubF (sdK s k)) w6 hJ2 (by rw [pubs_len]; exact hlt)
      unfold ED at hy
      rw [nz_eq _ (pubF_len _)] at hy
      gi_wp2_with fail
      refine ⟨fun _ => (by omega), hR.mono ?_⟩
      rintro e W3 (⟨rfl, hJ3, hk3⟩ | ⟨rfl, hJx3⟩)
      · rw [← pubs_succ] at hJ3
        have HB3 := Lib.hid (HBQ.out.trans hk3)
        clear hR hk3
        gi_wp2
        go_roundw
        case rel => exact ⟨k + 1, by go_num, by omega, HB3, hJ3⟩
        case measure => simp [intOf]; omega
      · clear hR
        gi_wp2
        refine bodyPost_ret (results_none rfl _ _ _) rfl ?_
        exact ⟨⟨_, rfl⟩, .inr ⟨pubs s k ++ [pubF (sdK s k)], by rw [← pubs_succ]; exact pubs_pre s (k + 1) m (by omega), hJx3⟩⟩
    · obtain rfl : k = m := by omega
      gi_wp2
      go_end0
      exact ⟨⟨_, rfl⟩, .inl ⟨_, rfl, hJ⟩⟩

set_option maxHeartbeats 1000000 in
theorem leaves_all (s : List UInt8) (m : Int) (w : World) : Calls Tryd.prog 67 #[.agg (U s).toArray, .int .i64 m] w fun e w' =>
    e = .returned (.func (.func 95) #[] #[.pointer (some ⟨w.heap.size + 1, 0, none⟩), .pointer (some ⟨w.heap.size, 0, none⟩)]) ∧
    w' = (w.alloc (.cells (U s).toArray 23)).alloc (.cells #[.int .i64 m] 3) := by
  go_enter Tryd.func67, Tryd.ntmps67
  go_wp2_with fail
  go_ret
  exact ⟨by simp, rfl⟩
/-- the iterator hands over the public keys, in order -/
theorem leaves_stops (n : Nat) (hn : 2 ≤ n) (b1 b2 : Nat) (S : Nat → Prop) (s : List UInt8) (m : Nat) (hs : s.length = 32) (hm : m ≤ 1000000)
    (w : World) (hS : ∀ i, S i → i < w.heap.size) (hb1 : S b1) (hb2 : S b2) (h0n : S 0) (h1 : w.cell? ⟨b1, 0, none⟩ = some (.int .i64 (m : Int))) (h2 : RowB w b2 23 s) (hk : KR w Kt) :
    SeqStopsK Fence.wide n Tryd.prog 95 #[.pointer (some ⟨b1, 0, none⟩), .pointer (some ⟨b2, 0, none⟩)] ED (KS S) (fun ys => ys = pubs s m) (fun pre => pre <+: pubs s m) m w := fun l J Jx W hW hJ _ hY h0 =>
  leaves1_in n hn l b1 b2 S s m hs hm J Jx hY (fun pre W1 W2 h hb => hJ pre W1 W2 none h ⟨hb.os, hb.tape, hb.output, hb.size, fun k hk _ => hb.block k hk⟩ (fun r e => by cases e)) W (fun i hi => Nat.lt_of_lt_of_le (hS i hi) hW.size) hb1 hb2 h0n
    ((hW.cell (p := ⟨b1, 0, none⟩) (hS _ hb1)).trans h1) (h2.keep (hW.block b2 (hS _ hb2))) (hk.keep (hW.block 0 (hS _ h0n))) h0

set_option maxHeartbeats 2000000 in
theorem pappseq_in (n : Nat) (hn : 5 ≤ n) (b1 b2 : Nat) (s : List UInt8) (m : Nat) (hs : s.length = 32) (hm : m ≤ 1000000)
    (w : World) (hb1 : b1 < w.heap.size) (hb2 : b2 < w.heap.size) (h1 : w.cell? ⟨b1, 0, none⟩ = some (.int .i64 (m : Int))) (h2 : RowB w b2 23 s) (hk : KR w Kt) :
    CallsIn Fence.wide n Tryd.prog 94 #[.slice none 0 0, .func (.func 95) #[] #[.pointer (some ⟨b1, 0, none⟩), .pointer (some ⟨b2, 0, none⟩)]] w fun e W' => ∃ v, e = .returned v ∧ OwnD W' w.heap.size v (pubs s m) ∧ Below w.heap.size w W' := by
  have hn1 : 1 ≤ n := by omega
  obtain ⟨i0, hi, hz0, hz1, hz2⟩ := info_parts info_d
  have HRD := Lib.hid (pubs_dig s m)
  have hlt0 := hk.lt
  refine callsIn_of_wp_marks Tryd.func94 rfl trivial ?_ rfl
  simp only [Tryd.ntmps94, List.size_toArray, List.length_cons, List.length_nil, Nat.reduceAdd, Nat.reduceSub, Array.replicate_succ, Array.replicate_zero, List.push_toArray, List.append_toArray, List.nil_append, List.cons_append]
  have H1 := Lib.hid h1
  have H2 := Lib.hid h2
  have HK := Lib.hid hk
  have HSS := Lib.hid hs
  clear h1 h2 hk hs
  gi_wp2
  have bO := Boxed.new w 26 (.slice none 0 0)
  have hB0 : Below w.heap.size w (w.alloc (.cells #[.slice none 0 0] 26)) := (Below.refl _ w).alloc (Nat.le_refl _) _
  refine wpIn_rangeFunc_ownH rfl hn1 (gf := 95) (lb := #[.pointer (some ⟨b1, 0, none⟩), .pointer (some ⟨b2, 0, none⟩)]) rfl trivial (enters_of Tryd.func95 (by kernel_rfl) rfl)
    (leaves_stops (n - 1) (by omega) b1 b2 (· < w.heap.size) s m HSS.out hm _ (fun i hi => Nat.lt_of_lt_of_le hi hB0.size) hb1 hb2 hlt0 ((hB0.cell (p := ⟨b1, 0, none⟩) hb1).trans H1.out) (H2.out.keep (hB0.block b2 hb2)) (HK.out.keep (hB0.block 0 hlt0))) KS.trans (fun W l o o' hl _ _ _ => ks_put (B := w.heap.size) (fun i hi => hi) W l o' (Nat.le_trans hB0.size hl)) (Below.refl _ _) (fun _ => rfl)
    (fun (pre : List (List UInt8)) W => (∃ v, Boxed W w.heap.size 26 v ∧ W.ownsRow w.heap.size 23 32 v pre.length ((nzs pre).flatMap U) ∧ True) ∧ Below w.heap.size w W)
    (fun _ _ _ => False)
    (OwnFrom.and (Go.Own.from (holdsRow_own w.heap.size w.heap.size 26 23 32 (fun (pre : List (List UInt8)) => pre.length) (fun pre => (nzs pre).flatMap U) (fun _ _ => True)) _) (ownFrom_below (Nat.le_refl _) (by simp)))
    (fun _ _ _ _ _ hs _ _ => hs)
    ⟨⟨_, bO, World.ownsRow_nil _ _ _ _, trivial⟩, hB0⟩
    (fun x a' W => ∃ Bx, w.heap.size < Bx ∧ RowB W Bx 23 (nz x) ∧ a' = { tmps := #[.slice none 0 0, .func (.func 95) #[] #[.pointer (some ⟨b1, 0, none⟩), .pointer (some ⟨b2, 0, none⟩)], .pointer (some ⟨w.heap.size, 0, none⟩), undef, .slice none 0 0, .pointer (some ⟨Bx, 0, none⟩), .func (.func 95) #[] #[.pointer (some ⟨b1, 0, none⟩), .pointer (some ⟨b2, 0, none⟩)], .agg (U (nz x)).toArray, undef, undef, undef, undef, undef], defers := [] })
    (fun x a' _ X Y row hs hg hr => by obtain ⟨Bx, h1, h2, h3⟩ := hs; exact ⟨Bx, h1, rowb_own Bx (nz x) () X Y row h2 hg (fun r e => (hr r e).2), h3⟩)
    ?assign ?body ?done ?stop
  case assign =>
    rintro l pre x W K ⟨⟨v, hv, hrow, _⟩, hB1⟩ hK
    unfold ED
    have hx := nz_len x
    have HX := Lib.hid hx
    generalize nz x = X at *
    clear hx
    have n5 : RowB (W.alloc (.cells (U (flb 32 [])).toArray 23)) W.heap.size 23 (flb 32 []) := heap_alloc_new W _
    gi_wp2_with (refine in_store rfl (.tmp 5) (.tmp 7) rfl W.heap.size (flb 32 []) X rfl rfl n5 (by simp [flb]) HX.out ?_)
    have hb5 : Below W.heap.size W ((W.alloc (.cells (U (flb 32 [])).toArray 23)).setRow W.heap.size (U X).toArray) := below_setRow ((Below.refl _ _).alloc (Nat.le_refl _) _) (Nat.le_refl _) _
    exact hK _ _ ((keeps_below hb5).from _) (ks_below hb5 fun i hi => Nat.lt_of_lt_of_le hi hB1.size) ⟨⟨v, Boxed.below hv hb5, owns_below hrow hb5, trivial⟩, hB1.trans (hb5.mono hB1.size)⟩ ⟨W.heap.size, hv.lt, n5.setRow X, rfl⟩
  case body =>
    rintro l pre x a' W hl _ ⟨⟨v, hv, hrow, _⟩, hB1⟩ ⟨Bx, hBx, bX, rfl⟩ hlt
    have hx := nz_len x
    have HX := Lib.hid hx
    have HNP := Lib.hid (show (nzs (pre ++ [x])).flatMap U = (nzs pre).flatMap U ++ U (nz x) by rw [nzs_app, List.flatMap_append]; simp [nzs])
    generalize nz x = X at *
    clear hx
    have hc := hv.cell
    have hrg := bX.range
    have hsz := hB1.size
    have HN6 := Lib.hid (show ∀ j u, (U X)[j]? = some u → (W.alloc (.cells (U X).toArray 23)).cell? ((⟨W.heap.size, 0, none⟩ : Addr).add j) = some u from fun j u hu => by
      rw [Go.WideShapes.add_plain, Nat.zero_add, cell_of_row _ W.heap.size j _ _ _ (heap_alloc_new W _)]
      simpa using hu)
    gi_wp2_with (first
      | (refine in_load rfl (.tmp 5) rfl Bx 0 X rfl hrg HX.out ?_)
      | (refine in_bs rfl (.tmp 9) rfl X rfl HX.out ?_)
      | (gi_at_builtin; refine wpListIn_append_own _ rfl _ _ 26 rfl w.heap.size 23 i0 (.agg (U z32).toArray) 32 32 Tryd.underlying26 hi hz0 hz1 hz2 rfl (by decide) _ _ _ rfl (hrow.alloc _) ⟨W.heap.size, 0, none⟩ 1 1 (U X) rfl (by rw [U_length, HX.out]) HN6.out (U_one X) (by unfold maxLen; omega) (by omega) (by simp; omega) ?_; intro v' w1 hown' hgrow _; obtain ⟨g', cap', rfl⟩ := ownsRow_succ hown'; obtain ⟨hv1, hv2, hr2, hk2, hb2⟩ := hv.appended (by decide) hrow hB1.size (Nat.le_refl _) hown' hgrow; have hc1 := hv1.cell; have hf1 := hv1.frozen))
    refine ⟨hk2.from _, ks_below hb2 fun i hi => hi, ⟨_, hv2, ?_⟩, hB1.trans hb2⟩
    have hr3 := hr2
    rw [← HNP.out] at hr3
    rw [List.length_append]
    exact hr3
  case done =>
    rintro D' ys W hD' rfl ⟨⟨v, hv, hrow, _⟩, hB1⟩ hK
    have hc := hv.cell
    gi_wp2
    refine ⟨by simp, .inl ⟨_, _, rfl, run_takeDeferred hK, ?_⟩⟩
    rw [nzs_eq _ HRD.out] at hrow
    exact ⟨_, results_tmp rfl _ _ _, v, rfl, ⟨ownsRow_putObj hrow _ hK rfl, HRD.out⟩, hB1.trans (belowK_b (w := w) (Nat.le_refl _) W D' _ _ (by simp at hD'; omega) hK rfl rfl)⟩
  case stop =>
    rintro D' c pre W _ _ h _
    exact h.elim

set_option maxHeartbeats 1000000 in
theorem pcollect_all (b1 b2 : Nat) (s : List UInt8) (m : Nat) (hs : s.length = 32) (hm : m ≤ 1000000)
    (w : World) (hb1 : b1 < w.heap.size) (hb2 : b2 < w.heap.size) (h1 : w.cell? ⟨b1, 0, none⟩ = some (.int .i64 (m : Int))) (h2 : RowB w b2 23 s) (hk : KR w Kt) :
    Calls Tryd.prog 66 #[.func (.func 95) #[] #[.pointer (some ⟨b1, 0, none⟩), .pointer (some ⟨b2, 0, none⟩)]] w fun e W' => ∃ v, e = .returned v ∧ OwnD W' w.heap.size v (pubs s m) ∧ Below w.heap.size w W' := by
  have C := Lib.hid (callsIn_wide.1 (pappseq_in 5 (Nat.le_refl _) b1 b2 s m hs hm w hb1 hb2 h1 h2 hk))
  clear h1 h2 hk
  go_enter Tryd.func66, Tryd.ntmps66
  go_wp2_with fail
  refine C.out.mono ?_
  rintro e w2 ⟨v, rfl, ho, hb⟩
  go_wp2_with fail
  go_ret
  exact ⟨v, rfl, ho, hb⟩
end
end Go.Proofs.YteicbdjennjcdaaDoor
