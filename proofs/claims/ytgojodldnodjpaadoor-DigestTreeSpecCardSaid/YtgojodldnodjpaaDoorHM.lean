/- Digest: digests compared. -/
import Derived.Test.YtgojodldnodjpaaDoorHL
import Derived.DeepKeys
namespace Go.Proofs.YtgojodldnodjpaaDoor
open Go.RowKit

theorem part_u8 (l : List UInt8) (i : Nat) (h : i < l.length) (w : World) : (part 5 (U l).toArray i).run Tryd.prog w = .ok (.int .u8 (by_ l i).toNat) w := by
  have hg : (U l)[i]? = some (.int .u8 (by_ l i).toNat) := by
    rw [U_get, List.getElem?_eq_getElem h, by_, List.getD_eq_getElem?_getD, List.getElem?_eq_getElem h]
    rfl
  have hagg : (isAgg 5).run Tryd.prog w = .ok false w := Tryd.isAgg5 w
  simp [part, hagg, hg]

theorem items_u8 (d : Nat) (l m : List UInt8) (w : World) (hl : l.length = 32) (hm : m.length = 32) : ∀ is : List Nat, (∀ i ∈ is, i < 32) →
    (Op.eqItems (d + 1) 5 1 (U l).toArray (U m).toArray is).run Tryd.prog w = .ok (is.all fun i => by_ l i == by_ m i) w
  | [], _ => by simp [Op.eqItems]
  | i :: is, h => by
    have hi := h i (List.mem_cons_self ..)
    have ih := items_u8 d l m w hl hm is (fun j hj => h j (List.mem_cons_of_mem _ hj))
    have e1 := part_u8 l i (by omega) w
    have e2 := part_u8 m i (by omega) w
    have e3 := run_equalIn_int (P := Tryd.prog) (w := w) d 5 .u8 .u8 (by_ l i).toNat (by_ m i).toNat Tryd.underlying5
    simp only [Op.eqItems, Nat.mul_one, Sem.run_bind, e1, e2, e3, Result.andThen_ok, List.all_cons]
    by_cases hb : by_ l i = by_ m i
    · simp [hb, ih]
    · have : ¬ ((by_ l i).toNat : Int) = (by_ m i).toNat := fun e => hb (UInt8.toNat_inj.1 (by omega))
      simp [hb, this]

theorem all_by (l m : List UInt8) (hl : l.length = 32) (hm : m.length = 32) : ((List.range 32).all fun i => by_ l i == by_ m i) = decide (l = m) := by
  by_cases h : l = m
  · subst h; simp
  · rw [decide_eq_false h]
    by_cases hx : ((List.range 32).all fun i => by_ l i == by_ m i) = true
    · exfalso
      apply h
      apply List.ext_getElem (by omega)
      intro i h1 h2
      have := List.all_eq_true.1 hx i (List.mem_range.2 (by omega))
      have e : by_ l i = by_ m i := by simpa using this
      rw [by_, by_, List.getD_eq_getElem?_getD, List.getD_eq_getElem?_getD, List.getElem?_eq_getElem h1, List.getElem?_eq_getElem h2] at e
      simpa using e
    · simpa using hx
theorem eq_dig (l m : List UInt8) (hl : l.length = 32) (hm : m.length = 32) (w : World) : (Op.equalIn 10000 26 (.agg (U l).toArray) (.agg (U m).toArray)).run Tryd.prog w = .ok (decide (l = m)) w := by
  obtain ⟨i, hi, _⟩ := info_parts info_u8
  have hc : Tryd.prog.cellsOf 5 = 1 := by kernel_rfl
  have := run_equalIn_array (P := Tryd.prog) (w := w) 9999 (U l).toArray (U m).toArray Tryd.underlying26 hi
  rw [this, hc, items_u8 9998 l m w hl hm _ (fun i h => List.mem_range.1 h), all_by l m hl hm]
theorem eq_self (l : List UInt8) (hl : l.length = 32) (w : World) : (Op.equalIn 10000 26 (.agg (U l).toArray) (.agg (U l).toArray)).run Tryd.prog w = .ok true w := by
  rw [eq_dig l l hl hl, decide_eq_true rfl]

set_option maxHeartbeats 800000 in
theorem path_none (w : World) : Calls Tryd.prog 19 #[.slice none 0 0, .int .i64 0] w fun e w' => e = .returned (.tuple #[.slice none 0 0, .int .i64 1]) ∧ w' = w := by
  go_enter Tryd.func19, Tryd.ntmps19
  go_wp2_with fail
  exact bodyPost_ret (v := .tuple #[.slice none 0 0, .int .i64 1]) (by simp [results, Tryd.results19]) rfl ⟨rfl, rfl⟩

/-- a digest and an error number, handed back -/
theorem res_two {fn : Func} {p q : Tmp} (h : fn.results = #[.cell p 26, .tmp q]) (tmps : Array Value) (w : World) (g : Nat) (t : TypeId) (l : List UInt8) (v : Value)
    (hp : tmps.getD p undef = .pointer (some ⟨g, 0, none⟩)) (hq : tmps.getD q undef = v) (hg : RowB w g t l) (hl : l.length = 32) :
    (results fn tmps).run Tryd.prog w = .ok (.tuple #[.agg (U l).toArray, v]) w := by
  have hld := run_loadVar_row (P := Tryd.prog) w g t 26 _ (0, 0) _ hg Tryd.underlying26 rfl (by rw [sz32, U_size, hl])
  have hp' : tmps[p]?.getD undef = .pointer (some ⟨g, 0, none⟩) := by simpa using hp
  have hq' : tmps[q]?.getD undef = v := by simpa using hq
  simp [results, h, hp', hq', asAddr, hld]

def z32 : List UInt8 := List.replicate 32 0

set_option maxRecDepth 100000 in
set_option maxHeartbeats 1600000 in
theorem climb_two (d : List UInt8) (_hd : d.length = 32) (w : World) : Calls Tryd.prog 22 #[.agg (U d).toArray, .int .i64 0, .int .i64 2, .slice none 0 0] w fun e w' => e = .returned (.tuple #[.agg (U z32).toArray, .int .i64 1]) ∧ Below w.heap.size w w' := by
  obtain ⟨W1, hW1⟩ : ∃ W1, (w.alloc (.cells (U d).toArray 26)).alloc (.cells (U (flb 32 [])).toArray 26) = W1 := ⟨_, rfl⟩
  obtain ⟨h0, h1, hb1, hz1⟩ := box2 w (U d).toArray (U (flb 32 [])).toArray 26 26 W1 hW1
  have C := Lib.hid (steps_all 2 0 2 W1 (by omega) (by omega) (by omega))
  rw [show stp 2 0 2 = 1 by decide +kernel] at C
  have HW1 := Lib.hid hW1
  have hr1 : RowB W1 (w.heap.size + 1) 26 (flb 32 []) := h1
  have HR1 := Lib.hid hr1
  have HB1 := Lib.hid hb1
  clear h0 h1 hb1 hW1 hr1
  go_enter Tryd.func22, Tryd.ntmps22
  go_wp2_with fail
  generalize hW1' : (w.alloc _).alloc _ = W1'
  have e9 : W1' = W1 := hW1'.symm.trans HW1.out
  clear hW1'
  rw [e9]
  clear e9 W1'
  refine C.out.mono ?_
  rintro e w' ⟨rfl, hw'⟩
  rw [hw']
  clear hw' w'
  have hr1 := HR1.out
  have hr2 := hr1.setRow z32
  go_wp2_with (refine store_B rfl (.tmp 8) (.tmp 33) rfl (w.heap.size + 1) (flb 32 []) z32 rfl rfl 26 hr1 rfl (by simp [flb]) ?_)
  exact bodyPost_ret (res_two rfl _ _ _ _ _ _ rfl rfl hr2 rfl) rfl ⟨rfl, below_setRow HB1.out (by omega) _⟩

set_option maxRecDepth 100000 in
set_option maxHeartbeats 1600000 in
theorem climb_leaf (d : List UInt8) (hd : d.length = 32) (w : World) (hk : KR w Kt) (A : Option Addr) (cap : Nat) : Calls Tryd.prog 42 #[.agg (U d).toArray, .int .i64 0, .int .i64 1, .slice A 0 cap] w fun e w' => e = .returned (.agg (U (leafd d)).toArray) ∧ Below w.heap.size w w' := by
  have hlt0 := hk.lt
  obtain ⟨W1, hW1⟩ : ∃ W1, (w.alloc (.cells (U d).toArray 26)).alloc (.cells (U (flb 32 [])).toArray 26) = W1 := ⟨_, rfl⟩
  obtain ⟨h0, h1, hb1, hz1⟩ := box2 w (U d).toArray (U (flb 32 [])).toArray 26 26 W1 hW1
  have C := Lib.hid (leaf_all d W1 hd (hk.keep (hb1.block 0 hlt0)))
  have HW1 := Lib.hid hW1
  have hr0 : RowB W1 w.heap.size 26 d := h0
  have hr1 : RowB W1 (w.heap.size + 1) 26 (flb 32 []) := h1
  have HR1 := Lib.hid hr1
  have HB1 := Lib.hid hb1
  have hr0' := hr0
  rw [← hW1] at hr0'
  rw [← hW1] at C
  clear h0 h1 hb1 hW1 hr1 hk hr0
  go_enter Tryd.func42, Tryd.ntmps42
  go_wp2_with (refine load_B rfl (.tmp 4) rfl w.heap.size rfl 26 d hr0' hd ?_)
  refine C.out.mono ?_
  rintro e w2 ⟨rfl, hb2⟩
  rw [HW1.out] at hb2
  have hd2 : RowB w2 (w.heap.size + 1) 26 (flb 32 []) := (hb2.block _ (by omega)).trans HR1.out
  have hr2 := hd2.setRow (leafd d)
  have HB2 := Lib.hid (HB1.out.trans (hb2.mono (by omega)))
  clear C hb2 hr0'
  go_wp2_with (refine store_B rfl (.tmp 8) (.tmp 14) rfl (w.heap.size + 1) (flb 32 []) (leafd d) rfl rfl 26 hd2 (tagd_len _ _) (by simp [flb]) ?_)
  exact bodyPost_ret (res_B rfl _ _ _ _ _ rfl hr2 (tagd_len _ _)) rfl ⟨rfl, below_setRow HB2.out (by omega) _⟩

set_option maxRecDepth 100000 in
set_option maxHeartbeats 1600000 in
theorem climb_one (d : List UInt8) (hd : d.length = 32) (w : World) (hk : KR w Kt) : Calls Tryd.prog 22 #[.agg (U d).toArray, .int .i64 0, .int .i64 1, .slice none 0 0] w fun e w' => e = .returned (.tuple #[.agg (U (leafd d)).toArray, .int .i64 0]) ∧ Below w.heap.size w w' := by
  have hlt0 := hk.lt
  obtain ⟨W1, hW1⟩ : ∃ W1, (w.alloc (.cells (U d).toArray 26)).alloc (.cells (U (flb 32 [])).toArray 26) = W1 := ⟨_, rfl⟩
  obtain ⟨h0, h1, hb1, hz1⟩ := box2 w (U d).toArray (U (flb 32 [])).toArray 26 26 W1 hW1
  have C := Lib.hid (steps_all 1 0 1 W1 (by omega) (by omega) (by omega))
  rw [show stp 1 0 1 = 0 by decide +kernel] at C
  have C2 := Lib.hid (climb_leaf d hd W1 (hk.keep (hb1.block 0 hlt0)) none 0)
  have HW1 := Lib.hid hW1
  have hr0 : RowB W1 w.heap.size 26 d := h0
  have hr1 : RowB W1 (w.heap.size + 1) 26 (flb 32 []) := h1
  have HR1 := Lib.hid hr1
  have HB1 := Lib.hid hb1
  clear h0 h1 hb1 hW1 hr1 hk
  go_enter Tryd.func22, Tryd.ntmps22
  go_wp2_with fail
  generalize hW1' : (w.alloc _).alloc _ = W1'
  have e9 : W1' = W1 := hW1'.symm.trans HW1.out
  clear hW1'
  rw [e9]
  clear e9 W1'
  refine C.out.mono ?_
  rintro e w' ⟨rfl, hw'⟩
  rw [hw']
  clear hw' w'
  go_wp2_with (refine load_B rfl (.tmp 4) rfl w.heap.size rfl 26 d hr0 hd ?_)
  refine C2.out.mono ?_
  rintro e w2 ⟨rfl, hb2⟩
  have hd2 : RowB w2 (w.heap.size + 1) 26 (flb 32 []) := (hb2.block _ (by omega)).trans HR1.out
  have hr2 := hd2.setRow (leafd d)
  have HB2 := Lib.hid (HB1.out.trans (hb2.mono (by omega)))
  clear C C2 hb2 hr0
  go_wp2_with (refine store_B rfl (.tmp 8) (.tmp 38) rfl (w.heap.size + 1) (flb 32 []) (leafd d) rfl rfl 26 hd2 (tagd_len _ _) (by simp [flb]) ?_)
  exact bodyPost_ret (res_two rfl _ _ _ _ _ _ rfl rfl hr2 (tagd_len _ _)) rfl ⟨rfl, below_setRow HB2.out (by omega) _⟩
end Go.Proofs.YtgojodldnodjpaaDoor
