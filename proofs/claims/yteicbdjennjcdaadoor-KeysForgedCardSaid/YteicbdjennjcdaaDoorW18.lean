/- Keys: signedBy, revealed, slices.Equal, the iterator earlier. -/
import Derived.Test.YteicbdjennjcdaaDoorW14
import Derived.Test.YteicbdjennjcdaaDoorW08
namespace Go.Proofs.YteicbdjennjcdaaDoor
set_option maxRecDepth 100000
open Go.RowKit

theorem ev_neqD {o : Oper} {a : Act} {w : World} (x y : Operand) (l m : List UInt8) (hl : l.length = 32) (hm : m.length = 32) (ho : o.op = .binOp .neq 23 x y 23) (hx : a.eval x = .agg (U l).toArray) (hy : a.eval y = .agg (U m).toArray) :
    (execOp a.eval o).run Tryd.prog w = .ok (.value (.bool (!decide (l = m)))) w := by
  have q1 := eq_dig l m hl hm
  unfold execOp
  simp only [ho, hx, hy]
  go_simp
theorem ev_eqD {o : Oper} {a : Act} {w : World} (x y : Operand) (l m : List UInt8) (hl : l.length = 32) (hm : m.length = 32) (ho : o.op = .binOp .eql 23 x y 23) (hx : a.eval x = .agg (U l).toArray) (hy : a.eval y = .agg (U m).toArray) :
    (execOp a.eval o).run Tryd.prog w = .ok (.value (.bool (decide (l = m)))) w := by
  have q1 := eq_dig l m hl hm
  unfold execOp
  simp only [ho, hx, hy]
  go_simp
theorem ev_build0 {o : Oper} {a : Act} {w : World} (ho : o.op = .build 23 #[]) : (execOp a.eval o).run Tryd.prog w = .ok (.value (.agg (U z32).toArray)) w := by
  have hb : (Instr.build 23 #[]).run Tryd.prog w = .ok (.agg (U z32).toArray) w := run_build w 23 _ _ (by kernel_rfl)
  simp [execOp, ho, hb, Result.andThen]
/-- the message that a leaf has signed -/
def mgF (L : List (List UInt8)) (i : Int) : List UInt8 := if i < L.length then L.getD i.toNat [] else z32
theorem mgF_len (L : List (List UInt8)) (i : Int) (hL : ∀ d ∈ L, d.length = 32) (hi : 0 ≤ i) : (mgF L i).length = 32 := by
  unfold mgF
  split
  · have h : i.toNat < L.length := by omega
    rw [List.getD_eq_getElem?_getD, List.getElem?_eq_getElem h]
    exact hL _ (List.getElem_mem h)
  · rfl

set_option maxHeartbeats 1600000 in
theorem signedBy_all (L : List (List UInt8)) (A : Option Addr) (cap : Nat) (i : Int) (hi : 0 ≤ i) (w : World) (hl : DL w (· < w.heap.size) L A cap) :
    Calls Tryd.prog 49 #[.slice A L.length cap, .int .i64 i] w fun e w' => e = .returned (.tuple #[.agg (U (mgF L i)).toArray, .bool (!decide (mgF L i = z32))]) ∧ Below w.heap.size w w' := by
  have HL := Lib.hid hl
  have hcap := hl.1
  have hcm : cap ≤ 9223372036854775807 := hl.2.1
  clear hl
  have n1 : RowB (w.alloc (.cells (U (flb 32 [])).toArray 23)) w.heap.size 23 (flb 32 []) := heap_alloc_new w _
  have hb1 : Below w.heap.size w (w.alloc (.cells (U (flb 32 [])).toArray 23)) := (Below.refl _ _).alloc (Nat.le_refl _) _
  have HB1 := Lib.hid hb1
  by_cases h : i < L.length
  · obtain ⟨k, rfl⟩ : ∃ k : Nat, i = k := ⟨i.toNat, by omega⟩
    have hk : k < L.length := by omega
    obtain ⟨x, hx⟩ : ∃ x, L[k]? = some x := ⟨_, List.getElem?_eq_getElem hk⟩
    have hx32 := HL.out.2.2.2.1 x (List.mem_of_getElem? hx)
    obtain ⟨b, ofs, rfl, hS, hc⟩ := HL.out.2.2.2.2 (by omega)
    have HR := Lib.hid (show (w.alloc (.cells (U (flb 32 [])).toArray 23)).rangeAt b (ofs + k * 32) (U x) from fun j u hu => (World.cell?_of_block (hb1.block b hS)).trans (hc k x hx j u hu))
    have HX := Lib.hid hx32
    have HM := Lib.hid (show mgF L k = x by rw [mgF, if_pos h, Int.toNat_natCast, List.getD_eq_getElem?_getD, hx]; rfl)
    rw [HM.out]
    clear hx hx32 hc hb1
    go_enter Tryd.func49, Tryd.ntmps49
    go_upto_region 3 with (first
      | (refine load_D rfl (.tmp 12) rfl b (ofs + k * 32) x rfl HR.out HX.out ?_)
      | (refine store_B rfl (.tmp 4) (.tmp 13) rfl w.heap.size (flb 32 []) x rfl rfl 23 n1 HX.out (by simp [flb]) ?_))
    have HG := Lib.hid (show ∀ W5, (w.alloc (.cells (U (flb 32 [])).toArray 23)).setRow w.heap.size (U x).toArray = W5 → RowB W5 w.heap.size 23 x ∧ Below w.heap.size w W5 from fun W5 h => by
      subst h
      exact ⟨n1.setRow x, below_setRow HB1.out (Nat.le_refl _) _⟩)
    generalize hW5 : (w.alloc _).setRow _ _ = W5
    obtain ⟨r5, hb5⟩ := HG.out W5 hW5
    clear hW5 HG n1 HR
    have rd : RowB W5.drew w.heap.size 23 x := r5
    refine wp_region_noPanic ?_
    refine wp_region_held_drew (S := fun ww => RowB ww w.heap.size 23 x ∧ Below w.heap.size w ww) (by kernel_rfl) ⟨rd, hb5.drew⟩ (fun h0 => ?_)
    refine tk_load 0 14 (.tmp 4) w.heap.size (0) x rfl (by kernel_rfl) (by kernel_rfl) (by kernel_rfl) (fun _ _ _ _ h => h) rfl rfl rfl rfl (fun ww h => h.1.range) HX.out h0 ?_
    simp only [Act.put, List.setIfInBounds_toArray, List.set_cons_zero, List.set_cons_succ]
    refine tk_load 1 15 (.tmp 4) w.heap.size (0) x rfl (by kernel_rfl) (by kernel_rfl) (by kernel_rfl) (fun _ _ _ _ h => h) rfl rfl rfl rfl (fun ww h => h.1.range) HX.out h0 ?_
    simp only [Act.put, List.setIfInBounds_toArray, List.set_cons_zero, List.set_cons_succ]
    refine tk_val 2 16 (.agg (U z32).toArray) rfl (by kernel_rfl) (by kernel_rfl) (by kernel_rfl) (fun _ _ _ _ h => h) rfl rfl (fun _ _ => ev_build0 rfl) h0 ?_
    simp only [Act.put, List.setIfInBounds_toArray, List.set_cons_zero, List.set_cons_succ]
    refine tk_val 3 17 (.bool (!decide (x = z32))) rfl (by kernel_rfl) (by kernel_rfl) (by kernel_rfl) (fun _ _ _ _ h => h) rfl rfl (fun _ _ => ev_neqD (.tmp 15) (.tmp 16) x z32 HX.out rfl rfl rfl rfl) h0 ?_
    simp only [Act.put, List.setIfInBounds_toArray, List.set_cons_zero, List.set_cons_succ]
    obtain ⟨V0, hV0⟩ : ∃ V0, W5.drew = V0 := ⟨_, rfl⟩
    rw [hV0] at h0 ⊢
    clear hV0 rd
    have hs : V0.setRow w.heap.size (U x).toArray = V0 := setRow_self V0 _ _ _ _ h0.1
    refine lone 4 (by kernel_rfl) rfl (fun K hK => to_store (.tmp 4) (.tmp 14) rfl rfl rfl w.heap.size x x rfl rfl h0.1 HX.out HX.out ?_)
    rw [hs]
    refine hK _ _ h0 ?_
    clear hK hs
    refine tk_assign 5 5 (.tmp 17) (.bool (!decide (x = z32))) rfl (by kernel_rfl) (by kernel_rfl) (by kernel_rfl) (fun _ _ _ _ h => h) rfl rfl rfl rfl h0 ?_
    simp only [Act.put, List.setIfInBounds_toArray, List.set_cons_zero, List.set_cons_succ]
    refine wpAnyH_done (by kernel_rfl) (NoPanic.normal ?_) _
    have r6 := h0.1
    have HB6 := Lib.hid h0.2
    clear h0
    go_wp2_with fail
    exact bodyPost_ret (res_two rfl _ _ _ _ _ _ rfl rfl r6 HX.out) rfl ⟨rfl, HB6.out⟩
  · have HM := Lib.hid (show mgF L i = z32 by rw [mgF, if_neg h])
    rw [HM.out]
    have HX : Hid (z32.length = 32) := Lib.hid rfl
    clear hb1
    go_enter Tryd.func49, Tryd.ntmps49
    go_upto_region 3 with fail
    have HG := Lib.hid (show ∀ W5, w.alloc (.cells (U (flb 32 [])).toArray 23) = W5 → RowB W5 w.heap.size 23 z32 ∧ Below w.heap.size w W5 from fun W5 h => by
      subst h
      exact ⟨n1, HB1.out⟩)
    generalize hW5 : w.alloc _ = W5
    obtain ⟨r5, hb5⟩ := HG.out W5 hW5
    clear hW5 HG n1
    have rd : RowB W5.drew w.heap.size 23 z32 := r5
    refine wp_region_noPanic ?_
    refine wp_region_held_drew (S := fun ww => RowB ww w.heap.size 23 z32 ∧ Below w.heap.size w ww) (by kernel_rfl) ⟨rd, hb5.drew⟩ (fun h0 => ?_)
    refine tk_load 0 14 (.tmp 4) w.heap.size (0) z32 rfl (by kernel_rfl) (by kernel_rfl) (by kernel_rfl) (fun _ _ _ _ h => h) rfl rfl rfl rfl (fun ww h => h.1.range) HX.out h0 ?_
    simp only [Act.put, List.setIfInBounds_toArray, List.set_cons_zero, List.set_cons_succ]
    refine tk_load 1 15 (.tmp 4) w.heap.size (0) z32 rfl (by kernel_rfl) (by kernel_rfl) (by kernel_rfl) (fun _ _ _ _ h => h) rfl rfl rfl rfl (fun ww h => h.1.range) HX.out h0 ?_
    simp only [Act.put, List.setIfInBounds_toArray, List.set_cons_zero, List.set_cons_succ]
    refine tk_val 2 16 (.agg (U z32).toArray) rfl (by kernel_rfl) (by kernel_rfl) (by kernel_rfl) (fun _ _ _ _ h => h) rfl rfl (fun _ _ => ev_build0 rfl) h0 ?_
    simp only [Act.put, List.setIfInBounds_toArray, List.set_cons_zero, List.set_cons_succ]
    refine tk_val 3 17 (.bool (!decide (z32 = z32))) rfl (by kernel_rfl) (by kernel_rfl) (by kernel_rfl) (fun _ _ _ _ h => h) rfl rfl (fun _ _ => ev_neqD (.tmp 15) (.tmp 16) z32 z32 HX.out rfl rfl rfl rfl) h0 ?_
    simp only [Act.put, List.setIfInBounds_toArray, List.set_cons_zero, List.set_cons_succ]
    obtain ⟨V0, hV0⟩ : ∃ V0, W5.drew = V0 := ⟨_, rfl⟩
    rw [hV0] at h0 ⊢
    clear hV0 rd
    have hs : V0.setRow w.heap.size (U z32).toArray = V0 := setRow_self V0 _ _ _ _ h0.1
    refine lone 4 (by kernel_rfl) rfl (fun K hK => to_store (.tmp 4) (.tmp 14) rfl rfl rfl w.heap.size z32 z32 rfl rfl h0.1 HX.out HX.out ?_)
    rw [hs]
    refine hK _ _ h0 ?_
    clear hK hs
    refine tk_assign 5 5 (.tmp 17) (.bool (!decide (z32 = z32))) rfl (by kernel_rfl) (by kernel_rfl) (by kernel_rfl) (fun _ _ _ _ h => h) rfl rfl rfl rfl h0 ?_
    simp only [Act.put, List.setIfInBounds_toArray, List.set_cons_zero, List.set_cons_succ]
    refine wpAnyH_done (by kernel_rfl) (NoPanic.normal ?_) _
    have r6 := h0.1
    have HB6 := Lib.hid h0.2
    clear h0
    go_wp2_with fail
    exact bodyPost_ret (res_two rfl _ _ _ _ _ _ rfl rfl r6 HX.out) rfl ⟨rfl, HB6.out⟩

/-- how far each chain is known -/
def rvF (b : List UInt8) (has : Bool) : List Nat := if has = true then dgl b else List.replicate 19 3
theorem rvF_len (b : List UInt8) (has : Bool) : (rvF b has).length = 19 := by
  unfold rvF
  split
  · exact dgl_len _
  · rfl
set_option maxHeartbeats 1600000 in
theorem revealed_all (b : List UInt8) (has : Bool) (w : World) (hb : b.length = 32) :
    Calls Tryd.prog 85 #[.agg (U b).toArray, .bool has] w fun e w' => ∃ g, e = .returned (.slice (some ⟨g, 0, none⟩) 19 19) ∧ RowN w' g 75 (rvF b has) ∧ w.heap.size ≤ g ∧ Below w.heap.size w w' := by
  have HB := Lib.hid hb
  obtain ⟨k1, hb1, hz1⟩ := box1 w (U b).toArray 23 _ rfl
  have r1 : RowB (w.alloc (.cells (U b).toArray 23)) w.heap.size 23 b := k1
  have HB1 := Lib.hid hb1
  have HZ1 := Lib.hid hz1
  clear hb k1 hb1 hz1
  go_enter Tryd.func85, Tryd.ntmps85
  go_wp2_with (refine load_B rfl (.tmp 2) rfl w.heap.size rfl 23 b r1 HB.out ?_)
  refine (Digits_all b _ HB.out).mono ?_
  rintro e w2 ⟨g, rfl, hr2, hg2, hb2⟩
  have hlt := hr2.lt
  rw [HZ1.out] at hg2
  have HB2 := Lib.hid (HB1.out.trans (hb2.mono (by rw [HZ1.out]; omega)))
  have HR2 := Lib.hid hr2
  have hz2 : w.heap.size ≤ w2.heap.size := HB2.out.size
  clear hr2 hb2 r1
  cases has with
  | true =>
    go_wp2_with fail
    go_ret
    exact ⟨g, rfl, HR2.out, by omega, HB2.out⟩
  | false =>
    go_wp2_with fail
    go_loopw [12] (fun x wr => ∃ k : Nat, x = .int .i64 k ∧ k ≤ 19 ∧ Hid (RowN wr g 75 (List.replicate k 3 ++ (dgl b).drop k)) ∧ Hid (Below w.heap.size w wr)) (fun x _ => 19 - (intOf x).toNat)
    case atStart => exact ⟨0, rfl, by omega, HR2, HB2⟩
    case round =>
      obtain ⟨k, rfl, hk, HR, HBr⟩ := hrel
      by_cases hlt19 : k < 19
      · have hdl : (dgl b).length = 19 := dgl_len b
        have hcat : (dgl b).drop k = (dgl b)[k]'(by omega) :: (dgl b).drop (k + 1) := List.drop_eq_getElem_cons (by omega)
        have hx : (List.replicate k 3 ++ (dgl b).drop k)[k]? = some ((dgl b)[k]'(by omega)) := by rw [List.getElem?_append_right (by simp), hcat]; simp
        have hc := HR.out.cell hx
        have hf := HR.out.frozen k
        have hs := HR.out.set k 3
        have he : (List.replicate k 3 ++ (dgl b).drop k).set k 3 = List.replicate (k + 1) 3 ++ (dgl b).drop (k + 1) := by
          rw [List.set_append_right _ _ (by simp), hcat, List.length_replicate, Nat.sub_self, List.set_cons_zero, List.replicate_succ', List.append_assoc]
          rfl
        rw [he] at hs
        have HS := Lib.hid hs
        have b1 : (k : Int) < 19 := by omega
        clear hx hs he hcat
        go_wp2_with fail
        go_roundw
        case rel => exact ⟨k + 1, by go_num, by omega, HS, Lib.hid (HBr.out.setCell (show w.heap.size ≤ g by omega) _)⟩
        case measure => simp [intOf]; omega
      · obtain rfl : k = 19 := by omega
        have hfin : RowN wr g 75 (List.replicate 19 3) := by
          have := HR.out
          rwa [List.drop_of_length_le (by rw [dgl_len]; exact Nat.le_refl _), List.append_nil] at this
        have HFin := Lib.hid hfin
        clear hfin
        go_wp2_with fail
        go_ret
        exact ⟨g, rfl, HFin.out, by omega, HBr.out⟩

set_option maxHeartbeats 3200000 in
theorem Equal_all (P Q : List Nat) (A : Option Addr) (c : Nat) (B : Option Addr) (d : Nat) (w : World) (hp : IL w (· < w.heap.size) P A c) (hq : IL w (· < w.heap.size) Q B d) (hn : P.length ≤ 1000) (hne : P.length = Q.length) :
    Calls Tryd.prog 86 #[.slice A P.length c, .slice B Q.length d] w fun e w' => e = .returned (.bool (decide (P = Q))) ∧ Below w.heap.size w w' := by
  have HP := Lib.hid hp
  have HQ := Lib.hid hq
  have hc1 := hp.1
  have hc2 := hq.1
  have HLQ := Lib.hid hne
  rw [← hne] at hc2 ⊢
  clear hp hq hne
  go_enter Tryd.func86, Tryd.ntmps86
  go_wp2_with fail
  go_loopw [13] (fun x wr => ∃ k : Nat, k ≤ P.length ∧ x = .int .i64 k ∧ Hid (P.take k = Q.take k) ∧ Below w.heap.size w wr) (fun x _ => P.length - (intOf x).toNat)
  case atStart => exact ⟨0, Nat.zero_le _, rfl, Lib.hid rfl, Below.refl _ _⟩
  case round =>
    obtain ⟨k, hk, rfl, HT, hb⟩ := hrel
    have HB := Lib.hid hb
    have hz := hb.size
    by_cases hlt : k < P.length
    · obtain ⟨b1, o1, rfl, hS1, hr1⟩ := HP.out.2.2 (by omega)
      obtain ⟨b2, o2, rfl, hS2, hr2⟩ := HQ.out.2.2 (by rw [← HLQ.out]; omega)
      obtain ⟨x, hx⟩ : ∃ x, P[k]? = some x := ⟨_, List.getElem?_eq_getElem hlt⟩
      obtain ⟨y, hy⟩ : ∃ y, Q[k]? = some y := ⟨_, List.getElem?_eq_getElem (by rw [← HLQ.out]; exact hlt)⟩
      have e1 := (World.cell?_of_block (a := ⟨b1, o1 + k, none⟩) (hb.block b1 hS1)).trans (hr1 k x hx)
      have e2 := (World.cell?_of_block (a := ⟨b2, o2 + k, none⟩) (hb.block b2 hS2)).trans (hr2 k y hy)
      have HXX := Lib.hid hx
      have HYY := Lib.hid hy
      have bk : (k : Int) < P.length := by omega
      clear hr1 hr2 hx hy hb
      by_cases hxy : x = y
      · have hq1 : ((x : Int) != y) = false := by simp [hxy]
        have HXY := Lib.hid hxy
        clear hxy
        go_wp2_with fail
        go_quiet (fail)
        go_wp2_with fail
        go_roundw
        case rel => exact ⟨k + 1, by omega, by go_num, Lib.hid (take_eq_step P Q k x HT.out HXX.out (by rw [HXY.out]; exact HYY.out)), below_drewN HB.out _⟩
        case measure => simp [intOf]; omega
      · have hq1 : ((x : Int) != y) = true := by
          have : ¬ ((x : Int) = y) := by omega
          simpa using this
        have HNE := Lib.hid (show decide (P = Q) = false from decide_eq_false fun e => hxy (by have h1 := HXX.out; rw [e, HYY.out] at h1; injection h1 with h1; exact h1.symm))
        clear hxy
        go_wp2_with fail
        go_quiet (fail)
        go_wp2_with fail
        go_ret
        exact ⟨ret_bool HNE.out.symm, below_drewN HB.out _⟩
    · obtain rfl : k = P.length := by omega
      have HE := Lib.hid (show decide (P = Q) = true from decide_eq_true (by have h := HT.out; rwa [List.take_length, HLQ.out, List.take_length] at h))
      clear hb
      go_wp2_with fail
      go_ret
      exact ⟨ret_bool HE.out.symm, HB.out⟩
end Go.Proofs.YteicbdjennjcdaaDoor
