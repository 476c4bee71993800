/- Digest: the law's own examples. -/
import Derived.Test.YtgojodldnodjpaaDoorHM
import Derived.Test.YtgojodldnodjpaaDoorHZ
import Derived.Great.BuildSlice
import Derived.Laws.MakeOwn
import Derived.Deep.RegionHeld3
namespace Go.Proofs.YtgojodldnodjpaaDoor
open Go.RowKit

theorem info_d : (Tryd.prog.info? 26).map (fun i => (i.zero, i.size, i.bytes)) = some (some (.agg (U z32).toArray), 32, 32) := by kernel_rfl

theorem fold_set : ∀ (vs : List Value) (k : Nat) (cs : Array Value), k + vs.length = cs.size → ((vs.zipIdx k).foldl (fun cs x => cs.setIfInBounds x.2 x.1) cs).toList = cs.toList.take k ++ vs
  | [], k, cs, h => by
    have : cs.toList.take k = cs.toList := List.take_of_length_le (by simp at h ⊢; omega)
    simp [this]
  | v :: vs, k, cs, h => by
    have hk : k < cs.toList.length := by simp at h ⊢; omega
    rw [List.zipIdx_cons, List.foldl_cons, fold_set vs (k + 1) _ (by simp at h ⊢; omega)]
    have e : (cs.setIfInBounds k v).toList = cs.toList.take k ++ v :: cs.toList.drop (k + 1) := by
      rw [Array.toList_setIfInBounds, List.set_eq_take_append_cons_drop, if_pos hk]
    rw [e, List.take_append, List.length_take, Nat.min_eq_left (by omega), List.take_of_length_le (by rw [List.length_take]; omega), show k + 1 - k = 1 by omega]
    simp

/-- a list of one digest, as a literal -/
theorem run_bs (d : List UInt8) (hd : d.length = 32) (w : World) : (Instr.buildSlice 30 1 #[(0, .agg (U d).toArray)]).run Tryd.prog w = .ok (.slice (some ⟨w.heap.size, 0, none⟩) 1 1) (w.alloc (.cells (U d).toArray 26)) := by
  obtain ⟨i, hi, hz0, hz1, hz2⟩ := info_parts info_d
  refine run_buildSlice w 30 26 1 _ _ i _ Tryd.underlying30 hi hz0 (by rw [hz1]; omega) (by rw [hz1]; omega) ?_
  rw [hz1]
  have hu : (U d).length = 32 := by rw [U_length, hd]
  have hf := fold_set (U d) 0 (Array.map (fun x => (U z32)[x % (U z32).length]?.getD default) (Array.range 32)) (by simp [hu])
  simp [Instr.fill, Value.cells, hu]
  apply Array.toList_inj.1
  rw [hf]
  simp
theorem run_mk64 (w : World) : (Instr.makeSlice 22 (.int .i64 64) (.int .i64 64)).run Tryd.prog w = .ok (.slice (some ⟨w.heap.size, 0, none⟩) 64 64) (w.alloc (.cells (U (List.replicate 64 0)).toArray 5)) := by
  obtain ⟨i, hi, hz0, hz1, hz2⟩ := info_parts info_u8
  have := run_makeSlice (P := Tryd.prog) (w := w) 22 5 i (.int .u8 0) Tryd.underlying22 hi hz0 .i64 .i64 64 64 (by decide) (by decide) (by rw [hz1]; decide) (by rw [hz2]; decide) (by decide)
  rw [hz1] at this
  have e : madeCells (Value.int .u8 0).cells 64 = (U (List.replicate 64 0)).toArray := by kernel_rfl
  rw [show Int.toNat 64 * 1 = 64 from rfl, e] at this
  exact this

theorem frz (w : World) (c : Array Value) (t : TypeId) (n : Nat) : ((w.alloc (.cells c t)).freeze ⟨w.heap.size, n, none⟩ 1).heap[w.heap.size]? = some (.cells c t (n, n + 1)) ∧
    Below w.heap.size w ((w.alloc (.cells c t)).freeze ⟨w.heap.size, n, none⟩ 1) ∧ ((w.alloc (.cells c t)).freeze ⟨w.heap.size, n, none⟩ 1).heap.size = w.heap.size + 1 := by
  refine ⟨?_, ⟨rfl, rfl, rfl, ?_, fun k hk => ?_⟩, ?_⟩
  · simp [World.freeze, World.alloc, -World.alloc_eq]
    rw [Array.getElem_modify_self]
    simp
  · simp [World.freeze, World.alloc, -World.alloc_eq]
  · have h1 : w.heap.size ≠ k := by omega
    simp [World.freeze, World.alloc, -World.alloc_eq, Array.getElem?_modify, Array.getElem?_push, h1, Ne.symm h1]
  · simp [World.freeze, World.alloc, -World.alloc_eq]
theorem conv_lit (w : World) : (convert 22 22 (.slice (some ⟨w.heap.size, 0, none⟩) 3 3)).run Tryd.prog (w.alloc (.cells #[.int .u8 97, .int .u8 98, .int .u8 99] 5)) =
    .ok (.slice (some ⟨w.heap.size, 0, none⟩) 3 3) ((w.alloc (.cells #[.int .u8 97, .int .u8 98, .int .u8 99] 5)).freeze ⟨w.heap.size, 3, none⟩ 1) := by
  have hsh : (w.alloc (.cells #[.int .u8 97, .int .u8 98, .int .u8 99] 5)).shape? w.heap.size = some (5, 3) := by
    simp [World.shape?, World.alloc, -World.alloc_eq]
  simp [convert, run_underlying Tryd.underlying22, run_underlying Tryd.underlying5, markStringish, hsh, Result.andThen]
def abc : List UInt8 := [97, 98, 99]
def d1 : List UInt8 := 1 :: List.replicate 31 0
theorem sha_at (l : List UInt8) (a b c d : UInt8) (h : (sha l).take 4 = [a, b, c, d]) : (sha l)[0]? = some a ∧ (sha l)[1]? = some b ∧ (sha l)[2]? = some c ∧ (sha l)[3]? = some d := by
  have e : ∀ i, i < 4 → (sha l)[i]? = [a, b, c, d][i]? := fun i hi => by
    rw [← h, List.getElem?_take, if_pos hi]
  exact ⟨e 0 (by omega), e 1 (by omega), e 2 (by omega), e 3 (by omega)⟩

set_option maxRecDepth 100000 in
set_option maxHeartbeats 3200000 in
theorem sane_all (w : World) (hk : KR w Kt) : Calls Tryd.prog 11 #[] w fun e w' => e = .returned (.bool true) ∧ Below w.heap.size w w' := by
  have hlt0 := hk.lt
  have HK := Lib.hid hk
  clear hk
  have hcv := conv_lit w
  obtain ⟨h0, hb1, hz1⟩ := frz w #[.int .u8 97, .int .u8 98, .int .u8 99] 5 3
  obtain ⟨W1, hW1⟩ : ∃ W1, (w.alloc (.cells #[.int .u8 97, .int .u8 98, .int .u8 99] 5)).freeze ⟨w.heap.size, 3, none⟩ 1 = W1 := ⟨_, rfl⟩
  rw [hW1] at hcv h0 hb1 hz1
  have hby : Byt W1 (· < W1.heap.size) abc (some ⟨w.heap.size, 0, none⟩) 3 :=
    ⟨Nat.le_refl _, by simp [maxLen], (fun e => by cases e), fun _ => ⟨w.heap.size, 0, rfl, by omega, fun i u hu => by
      rw [Nat.zero_add, cell_of_row W1 w.heap.size i _ _ _ h0]
      have e : (#[.int .u8 97, .int .u8 98, .int .u8 99] : Array Value) = (U abc).toArray := rfl
      rw [e]
      simpa using hu⟩⟩
  have C := Lib.hid (sum_all abc (some ⟨w.heap.size, 0, none⟩) 3 W1 hby (HK.out.keep (hb1.block 0 hlt0)))
  have HB1 := Lib.hid hb1
  clear hW1 hb1 h0 hby
  go_enter Tryd.func11, Tryd.ntmps11
  go_wp2_with fail
  refine C.out.mono ?_
  rintro e w2 ⟨rfl, hb⟩
  have hz2 := hb.size
  have HB2 := Lib.hid (HB1.out.trans (hb.mono (by omega)))
  have C2 := Lib.hid (sum_all [] none 0 w2 (byt_nil _ _) (HK.out.keep (HB2.out.block 0 hlt0)))
  clear hb C HB1 hcv
  go_wp2_with fail
  refine C2.out.mono ?_
  rintro e w3 ⟨rfl, hb⟩
  have hz3 := hb.size
  have HB3 := Lib.hid (HB2.out.trans (hb.mono (by omega)))
  clear hb C2 HB2
  obtain ⟨W4, hW4⟩ : ∃ W4, (w3.alloc (.cells (U (flb 32 [])).toArray 26)).alloc (.cells (U (flb 32 [])).toArray 26) = W4 := ⟨_, rfl⟩
  obtain ⟨k0, k1, hb4, hz4⟩ := box2 w3 (U (flb 32 [])).toArray (U (flb 32 [])).toArray 26 26 W4 hW4
  have r0 : RowB W4 w3.heap.size 26 (flb 32 []) := k0
  have r1 : RowB W4 (w3.heap.size + 1) 26 (flb 32 []) := k1
  have r0' := r0.setRow (sha abc)
  have r1' : RowB (W4.setRow w3.heap.size (U (sha abc)).toArray) (w3.heap.size + 1) 26 (flb 32 []) := (setRow_other _ _ _ _ (by omega)).trans r1
  have r1'' := r1'.setRow (sha [])
  have r0'' : RowB ((W4.setRow w3.heap.size (U (sha abc)).toArray).setRow (w3.heap.size + 1) (U (sha [])).toArray) w3.heap.size 26 (sha abc) := (setRow_other _ _ _ _ (by omega)).trans r0'
  have hb4' : Below w3.heap.size w3 ((W4.setRow w3.heap.size (U (sha abc)).toArray).setRow (w3.heap.size + 1) (U (sha [])).toArray) := below_setRow (below_setRow hb4 (Nat.le_refl _) _) (by omega) _
  have HW4 := Lib.hid hW4
  have R0 := Lib.hid r0''
  have R1 := Lib.hid r1''
  have HB4 := Lib.hid hb4'
  rw [← hW4] at r0 r1'
  clear k0 k1 hb4 hW4 r1 r0' r1'' r0'' hb4'
  go_wp2_with (first
    | (refine store_B rfl (.tmp 1) (.tmp 12) rfl w3.heap.size (flb 32 []) (sha abc) rfl rfl 26 r0 (sha_len _) (by simp [flb]) ?_)
    | (refine store_B rfl (.tmp 2) (.tmp 13) rfl (w3.heap.size + 1) (flb 32 []) (sha []) rfl rfl 26 r1' (sha_len _) (by simp [flb]) ?_))
  generalize hg4 : (w3.alloc _).alloc _ = W4'
  have e9 : W4' = W4 := hg4.symm.trans HW4.out
  clear hg4 r0 r1'
  rw [e9]
  clear e9 W4' HW4
  obtain ⟨W5, hW5⟩ : ∃ W5, W5 = (W4.setRow w3.heap.size (U (sha abc)).toArray).setRow (w3.heap.size + 1) (U (sha [])).toArray := ⟨_, rfl⟩
  rw [← hW5]
  have ra5 : RowB W5 w3.heap.size 26 (sha abc) := by rw [hW5]; exact R0.out
  have rb5 : RowB W5 (w3.heap.size + 1) 26 (sha []) := by rw [hW5]; exact R1.out
  have hb5 : Below w3.heap.size w3 W5 := by rw [hW5]; exact HB4.out
  have hz5 : W5.heap.size = w3.heap.size + 2 := by rw [hW5, setRow_size, setRow_size]; exact hz4
  have HB5 := Lib.hid (HB3.out.trans (hb5.mono (by omega)))
  clear hW5 R0 R1 HB4 hz4 HB3 hb5
  have RA5 := Lib.hid ra5
  have RB5 := Lib.hid rb5
  clear ra5 rb5
  refine (path_none W5).mono ?_
  rintro e w' ⟨rfl, hw'⟩
  rw [hw']
  clear hw' w'
  go_wp2_with fail
  refine (climb_two z32 rfl W5).mono ?_
  rintro e w6 ⟨rfl, hb6⟩
  have hz6 := hb6.size
  have HB6 := Lib.hid (HB5.out.trans (hb6.mono (by omega)))
  have RA6 := Lib.hid (RA5.out.keep (hb6.block _ (by omega)))
  have RB6 := Lib.hid (RB5.out.keep (hb6.block _ (by omega)))
  clear hb6 RA5 RB5 HB5
  have n6 : RowB (w6.alloc (.cells (U (flb 32 [])).toArray 26)) w6.heap.size 26 (flb 32 []) := heap_alloc_new w6 _
  have hb7 : Below w6.heap.size w6 ((w6.alloc (.cells (U (flb 32 [])).toArray 26)).setRow w6.heap.size (U z32).toArray) := below_setRow ((Below.refl _ _).alloc (Nat.le_refl _) _) (Nat.le_refl _) _
  have HB7 := Lib.hid hb7
  clear hb7
  go_wp2_with (refine store_B rfl (.tmp 5) (.tmp 21) rfl w6.heap.size (flb 32 []) z32 rfl rfl 26 n6 rfl (by simp [flb]) ?_)
  generalize hg7 : (w6.alloc _).setRow _ _ = W7
  have hb7 : Below w6.heap.size w6 W7 := by rw [← hg7]; exact HB7.out
  clear hg7 HB7 n6
  have hz7 := hb7.size
  have HB7 := Lib.hid (HB6.out.trans (hb7.mono (by omega)))
  have RA7 := Lib.hid (RA6.out.keep (hb7.block _ (by omega)))
  have RB7 := Lib.hid (RB6.out.keep (hb7.block _ (by omega)))
  clear hb7 RA6 RB6 HB6
  refine (climb_one d1 rfl W7 (HK.out.keep (HB7.out.block 0 hlt0))).mono ?_
  rintro e w8 ⟨rfl, hb8⟩
  have hz8 := hb8.size
  have HB8 := Lib.hid (HB7.out.trans (hb8.mono (by omega)))
  have RA8 := Lib.hid (RA7.out.keep (hb8.block _ (by omega)))
  have RB8 := Lib.hid (RB7.out.keep (hb8.block _ (by omega)))
  clear hb8 RA7 RB7 HB7
  have n8 : RowB (w8.alloc (.cells (U (flb 32 [])).toArray 26)) w8.heap.size 26 (flb 32 []) := heap_alloc_new w8 _
  have n8' := n8.setRow (leafd d1)
  have hb9 : Below w8.heap.size w8 ((w8.alloc (.cells (U (flb 32 [])).toArray 26)).setRow w8.heap.size (U (leafd d1)).toArray) := below_setRow ((Below.refl _ _).alloc (Nat.le_refl _) _) (Nat.le_refl _) _
  have ra9 := RA8.out.keep (hb9.block _ (by omega))
  have rb9 := RB8.out.keep (hb9.block _ (by omega))
  obtain ⟨a0, a1, a2, a3⟩ := sha_at abc _ _ _ _ sha_abc
  obtain ⟨b0, b1, b2, b3⟩ := sha_at [] _ _ _ _ sha_nil
  have hgen : ∀ (o : Obj) (r : Array Value), Below w8.heap.size w8 ((w8.alloc o).setRow w8.heap.size r) := fun o r => below_setRow ((Below.refl _ _).alloc (Nat.le_refl _) _) (Nat.le_refl _) _
  have ca0 := fun o r => (RA8.out.keep ((hgen o r).block _ (by omega))).cell a0
  have ca1 := fun o r => (RA8.out.keep ((hgen o r).block _ (by omega))).cell a1
  have ca2 := fun o r => (RA8.out.keep ((hgen o r).block _ (by omega))).cell a2
  have ca3 := fun o r => (RA8.out.keep ((hgen o r).block _ (by omega))).cell a3
  have cb0 := fun o r => (RB8.out.keep ((hgen o r).block _ (by omega))).cell b0
  have cb1 := fun o r => (RB8.out.keep ((hgen o r).block _ (by omega))).cell b1
  have cb2 := fun o r => (RB8.out.keep ((hgen o r).block _ (by omega))).cell b2
  have cb3 := fun o r => (RB8.out.keep ((hgen o r).block _ (by omega))).cell b3
  have HB9 := Lib.hid hb9
  have N8 := Lib.hid n8'
  clear hb9 n8' ra9 rb9 hgen a0 a1 a2 a3 b0 b1 b2 b3
  go_wp2_with (refine store_B rfl (.tmp 7) (.tmp 26) rfl w8.heap.size (flb 32 []) (leafd d1) rfl rfl 26 n8 (tagd_len _ _) (by simp [flb]) ?_)
  generalize hg9 : (w8.alloc _).setRow _ _ = W9
  have hb9 : Below w8.heap.size w8 W9 := by rw [← hg9]; exact HB9.out
  have hr9 : RowB W9 w8.heap.size 26 (leafd d1) := by rw [← hg9]; exact N8.out
  clear hg9 HB9 N8 n8 ca0 ca1 ca2 ca3 cb0 cb1 cb2 cb3 RA8 RB8
  have hz9 := hb9.size
  have hlt9 := hr9.lt
  have hbw9 : Below w.heap.size w W9 := HB8.out.trans (hb9.mono (by omega))
  have hkeep : ∀ ww, Below W9.heap.size W9 ww → ww.rangeAt w8.heap.size 0 (U (leafd d1)) := fun ww h j v hv => by
    have hr : RowB ww w8.heap.size 26 (leafd d1) := hr9.keep (h.block _ hlt9)
    rw [Nat.zero_add, cell_of_row ww _ j _ _ _ hr]
    simpa using hv
  have hkk : ∀ ww, Below W9.heap.size W9 ww → KR ww Kt := fun ww h => HK.out.keep ((h.block 0 (by omega)).trans (hbw9.block 0 hlt0))
  have KEEP := Lib.hid hkeep
  have KK := Lib.hid hkk
  have HBW := Lib.hid hbw9
  have STEP := Lib.hid (show ∀ ww w', Below W9.heap.size W9 ww → Below ww.heap.size ww w' → Below W9.heap.size W9 w' from fun ww w' h1 h2 => h1.trans (h2.mono h1.size))
  have p0 : W9.drew.rangeAt w8.heap.size 0 (U (leafd d1)) := hkeep _ (Below.refl _ _).drew
  clear hkeep hkk hbw9 hb9 hr9 HB8
  have ct : ∀ ww, Below W9.heap.size W9 ww → Calls Tryd.prog 17 #[.slice (some ⟨ww.heap.size, 0, none⟩) 1 1] (ww.alloc (.cells (U d1).toArray 26)) fun e w' => e = .returned (.agg (U (leafd d1)).toArray) ∧ Below W9.heap.size W9 w' := fun ww h => by
    obtain ⟨k0, hb, hz⟩ := box1 ww (U d1).toArray 26 _ rfl
    have hdl : DL (ww.alloc (.cells (U d1).toArray 26)) (· < (ww.alloc (.cells (U d1).toArray 26)).heap.size) [d1] (some ⟨ww.heap.size, 0, none⟩) 1 :=
      ⟨Nat.le_refl _, by simp [maxLen], (fun e => by cases e), fun d hd => by rw [List.mem_singleton.1 hd]; rfl, fun _ => ⟨ww.heap.size, 0, rfl, by omega, fun i d hd j u hu => by
        match i, hd with
        | 0, hd =>
          injection hd with hd
          subst hd
          rw [Nat.zero_mul, Nat.add_zero, Nat.zero_add, cell_of_row _ _ j _ _ _ k0]
          simpa using hu
        | i + 1, hd => simp at hd⟩⟩
    have hbw := STEP.out _ _ h hb
    exact (tree_all 1 [d1] _ 1 _ (Nat.le_refl _) (by omega) hdl (KK.out _ hbw)).mono fun e w' ⟨he, hb'⟩ => ⟨he, STEP.out _ _ hbw hb'⟩
  have ctn : ∀ ww, Below W9.heap.size W9 ww → Calls Tryd.prog 17 #[.slice none 0 0] ww fun e w' => e = .returned (.agg (U emptyd).toArray) ∧ Below W9.heap.size W9 w' := fun ww h =>
    (tree_nil none 0 ww (KK.out _ h)).mono fun e w' ⟨he, hb'⟩ => ⟨he, STEP.out _ _ h hb'⟩
  have ce : ∀ ww, Below W9.heap.size W9 ww → Calls Tryd.prog 14 #[.string ⟨#[101, 109, 112, 116, 121]⟩, .slice none 0 0] ww fun e w' => e = .returned (.agg (U emptyd).toArray) ∧ Below W9.heap.size W9 w' := fun ww h =>
    (tagged_all emptyT [] none 0 ww (by decide) (by simp) (byt_nil _ _) (KK.out _ h)).mono fun e w' ⟨he, hb'⟩ => ⟨he, STEP.out _ _ h hb'⟩
  have cc : ∀ ww, Below W9.heap.size W9 ww → Calls Tryd.prog 25 #[.agg #[Value.int .u8 0, Value.int .u8 0, Value.int .u8 0, Value.int .u8 0, Value.int .u8 0, Value.int .u8 0, Value.int .u8 0, Value.int .u8 0, Value.int .u8 0, Value.int .u8 0, Value.int .u8 0, Value.int .u8 0, Value.int .u8 0, Value.int .u8 0, Value.int .u8 0, Value.int .u8 0, Value.int .u8 0, Value.int .u8 0, Value.int .u8 0, Value.int .u8 0, Value.int .u8 0, Value.int .u8 0, Value.int .u8 0, Value.int .u8 0, Value.int .u8 0, Value.int .u8 0, Value.int .u8 0, Value.int .u8 0, Value.int .u8 0, Value.int .u8 0, Value.int .u8 0, Value.int .u8 0], .agg #[Value.int .u8 0, Value.int .u8 0, Value.int .u8 0, Value.int .u8 0, Value.int .u8 0, Value.int .u8 0, Value.int .u8 0, Value.int .u8 0, Value.int .u8 0, Value.int .u8 0, Value.int .u8 0, Value.int .u8 0, Value.int .u8 0, Value.int .u8 0, Value.int .u8 0, Value.int .u8 0, Value.int .u8 0, Value.int .u8 0, Value.int .u8 0, Value.int .u8 0, Value.int .u8 0, Value.int .u8 0, Value.int .u8 0, Value.int .u8 0, Value.int .u8 0, Value.int .u8 0, Value.int .u8 0, Value.int .u8 0, Value.int .u8 0, Value.int .u8 0, Value.int .u8 0, Value.int .u8 0]] ww fun e w' => e = .returned (.agg (U (chaind z32 z32)).toArray) ∧ Below ww.heap.size ww w' := fun ww h =>
    chain_all z32 z32 ww rfl rfl (KK.out _ h)
  have cg : ∀ ww b, Below W9.heap.size W9 ww → RowB ww b 5 (List.replicate 64 0) → Calls Tryd.prog 14 #[.string ⟨#[99, 104, 97, 105, 110]⟩, .slice (some ⟨b, 0, none⟩) 64 64] ww fun e w' => e = .returned (.agg (U (chaind z32 z32)).toArray) ∧ Below W9.heap.size W9 w' := fun ww b h hr =>
    (tagged_all chainT (List.replicate 64 0) (some ⟨b, 0, none⟩) 64 ww (by decide) (by simp) ((hr.byt (by simp [maxLen])).keep fun i hi => ⟨by rw [hi]; exact hr.lt, rfl⟩) (KK.out _ h)).mono fun e w' ⟨he, hb'⟩ => ⟨he, STEP.out _ _ h hb'⟩
  have CT := Lib.hid ct
  have CTN := Lib.hid ctn
  have CE := Lib.hid ce
  have CC := Lib.hid cc
  have CG := Lib.hid cg
  clear ct ctn ce cc cg
  have hbs : ∀ w : World, (Instr.buildSlice 30 1 #[(0, .agg #[Value.int .u8 1, Value.int .u8 0, Value.int .u8 0, Value.int .u8 0, Value.int .u8 0, Value.int .u8 0, Value.int .u8 0, Value.int .u8 0, Value.int .u8 0, Value.int .u8 0, Value.int .u8 0, Value.int .u8 0, Value.int .u8 0, Value.int .u8 0, Value.int .u8 0, Value.int .u8 0, Value.int .u8 0, Value.int .u8 0, Value.int .u8 0, Value.int .u8 0, Value.int .u8 0, Value.int .u8 0, Value.int .u8 0, Value.int .u8 0, Value.int .u8 0, Value.int .u8 0, Value.int .u8 0, Value.int .u8 0, Value.int .u8 0, Value.int .u8 0, Value.int .u8 0, Value.int .u8 0])]).run Tryd.prog w = .ok (.slice (some ⟨w.heap.size, 0, none⟩) 1 1) (w.alloc (.cells (U d1).toArray 26)) := fun w => run_bs d1 rfl w
  have hmk := run_mk64
  have q1 := eq_self (leafd d1) (tagd_len _ _)
  have q2 := eq_self emptyd (tagd_len _ _)
  have q3 := eq_self (chaind z32 z32) (tagd_len _ _)
  have hu : Tryd.prog.underlying 26 = _ := Tryd.underlying26
  have hi : (Tryd.prog.info? 26).map (·.size) = some (U (leafd d1)).length := by rw [sz32, U_length, show (leafd d1).length = 32 from tagd_len _ _]
  have hbx : Below W9.heap.size W9 W9.drew := (Below.refl _ _).drew
  go_region_held3 (fun w' => w'.rangeAt w8.heap.size 0 (U (leafd d1)))
    (first | exact p0 | exact KEEP.out _ hbx | exact KEEP.out _ (hbx.alloc hbx.size _))
    (first
      | (go_at_call 17; (first | ((with_reducible show Calls _ _ #[Value.slice (some _) 1 1] _ _); refine (CT.out _ hbx).mono ?_) | (with_reducible refine (CTN.out _ hbx).mono ?_)); rintro e w5 ⟨rfl, hb'⟩; clear hbx; have hbx := hb'; clear hb')
      | (go_at_call 14; (with_reducible refine (CE.out _ hbx).mono ?_); rintro e w5 ⟨rfl, hb'⟩; clear hbx; have hbx := hb'; clear hb')
      | (go_at_call 25; (with_reducible refine (CC.out _ hbx).mono ?_); rintro e w5 ⟨rfl, hb'⟩; have hby := STEP.out _ _ hbx hb'; clear hbx hb'; have hbx := hby; clear hby)
      | (go_at_call 25; refine (CC.out _ (hbx.alloc hbx.size (.cells (U (List.replicate 64 0)).toArray 5))).mono ?_; rintro e w5 ⟨rfl, hb'⟩; have h64 := (hb'.block _ (by simp)).trans (heap_alloc_new _ (.cells (U (List.replicate 64 0)).toArray 5)); have hby := STEP.out _ _ (hbx.alloc hbx.size (.cells (U (List.replicate 64 0)).toArray 5)) hb'; clear hbx hb'; have hbx := hby; clear hby)
      | (go_at_call 14; (with_reducible show Calls _ _ #[_, Value.slice (some _) 64 64] _ _); refine (CG.out _ _ hbx h64).mono ?_; rintro e w5 ⟨rfl, hb'⟩; clear hbx; have hbx := hb'; clear hb')
      | (go_at_call 14; (with_reducible show Calls _ _ #[_, Value.slice (some _) 64 64] _ _); refine (CG.out _ _ (hbx.alloc hbx.size (.cells (U (List.replicate 64 0)).toArray 5)) (heap_alloc_new _ (.cells (U (List.replicate 64 0)).toArray 5))).mono ?_; rintro e w5 ⟨rfl, hb'⟩; clear hbx; have hbx := hb'; clear hb'))
  all_goals
    go_wp2
    go_ret
    exact ⟨rfl, HBW.out.trans (hbx.mono (by have := HBW.out.size; omega))⟩
end Go.Proofs.YtgojodldnodjpaaDoor
