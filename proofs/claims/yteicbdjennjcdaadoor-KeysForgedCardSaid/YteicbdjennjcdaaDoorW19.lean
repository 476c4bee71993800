/- Keys: the iterator earlier. -/
import Derived.Test.YteicbdjennjcdaaDoorW18
import Derived.RangeFuncNested
import Derived.RangeFuncBound
import Derived.RangeFuncCalls
import Derived.RangeFuncLeaves
import Derived.RangeFuncBox
import Derived.OwnWalkIn
import Derived.TacticsInMore
import Derived.LoopNIn
import Derived.LoopIn
import Derived.Shelf.RegionOpen
namespace Go.Proofs.YteicbdjennjcdaaDoor
set_option maxRecDepth 100000
open Go.RowKit Go.Shelf

attribute [local go_sem] Oper.semAt_some

/-- the chains from i on of which an earlier element is needed -/
def erlA (D K : List Nat) : Nat → Nat → List (Fin 19)
  | 0, _ => []
  | m + 1, i => if h : i < 19 then (if D.getD i 0 < K.getD i 0 then [⟨i, h⟩] else []) ++ erlA D K m (i + 1) else []
def erl (D K : List Nat) (i : Nat) : List (Fin 19) := erlA D K (19 - i) i
theorem erl_end (D K : List Nat) : erl D K 19 = [] := rfl
theorem erl_drop (D K : List Nat) (i : Nat) (h : i < 19) : erl D K i = (if D.getD i 0 < K.getD i 0 then [⟨i, h⟩] else []) ++ erl D K (i + 1) := by
  unfold erl
  rw [show 19 - i = (19 - (i + 1)) + 1 by omega, erlA, dif_pos h]
theorem erl_mem (D K : List Nat) (j : Fin 19) : ∀ m i : Nat, i + m = 19 → (j ∈ erl D K i ↔ i ≤ j.val ∧ D.getD j.val 0 < K.getD j.val 0)
  | 0, i, h => by
    obtain rfl : i = 19 := by omega
    rw [erl_end]
    have := j.isLt
    constructor
    · intro h; cases h
    · intro h; omega
  | m + 1, i, h => by
    rw [erl_drop D K i (by omega), List.mem_append, erl_mem D K j m (i + 1) (by omega)]
    by_cases hd : D.getD i 0 < K.getD i 0
    · rw [if_pos hd, List.mem_singleton]
      constructor
      · rintro (rfl | ⟨h1, h2⟩)
        · exact ⟨Nat.le_refl _, hd⟩
        · exact ⟨by omega, h2⟩
      · rintro ⟨h1, h2⟩
        by_cases e : j.val = i
        · exact .inl (Fin.ext e)
        · exact .inr ⟨by omega, h2⟩
    · rw [if_neg hd]
      constructor
      · rintro (h | ⟨h1, h2⟩)
        · cases h
        · exact ⟨by omega, h2⟩
      · rintro ⟨h1, h2⟩
        refine .inr ⟨?_, h2⟩
        by_cases e : j.val = i
        · rw [e] at h2; exact absurd h2 hd
        · omega
def EI (i : Fin 19) : Array Value := #[.int .i64 (i.val : Int)]
def KB (b1 b2 g1 g2 : Nat) (i : Nat) : Prop := i = b1 ∨ i = b2 ∨ i = g1 ∨ i = g2
theorem KS.cell {S : Nat → Prop} {W W' : World} (h : KS S W W') {b o : Nat} (hb : S b) : W'.cell? ⟨b, o, none⟩ = W.cell? ⟨b, o, none⟩ := World.cell?_of_block (a := ⟨b, o, none⟩) (h b hb)
theorem KS.drewN {S : Nat → Prop} {W W' : World} (h : KS S W W') (n : Nat) : KS S W (W'.drewN n) := fun i hi => h i hi

set_option maxHeartbeats 4000000 in
theorem earlier1_in (n : Nat) (hn : 2 ≤ n) (l b1 b2 g1 g2 : Nat) (t1 t2 : TypeId) (D K : List Nat) (hD : D.length = 19) (hK : K.length = 19) (J Jx : List (Fin 19) → World → Prop)
    (hY : ∀ pre x W, J pre W → pre.length < 20 → YieldAt Fence.wide (n - 1) Tryd.prog l (EI x) W fun e W' =>
      (e = .returned (.bool true) ∧ J (pre ++ [x]) W' ∧ KS (KB b1 b2 g1 g2) W W') ∨ (e = .returned (.bool false) ∧ Jx (pre ++ [x]) W'))
    (hJd : ∀ pre W (m : Nat), J pre W → J pre (W.drewN m))
    (W : World) (h1 : W.cell? ⟨b1, 0, none⟩ = some (.slice (some ⟨g1, 0, none⟩) 19 19)) (h2 : W.cell? ⟨b2, 0, none⟩ = some (.slice (some ⟨g2, 0, none⟩) 19 19))
    (h3 : RowN W g1 t1 D) (h4 : RowN W g2 t2 K) (h0 : J [] W) :
    CallsIn Fence.wide n Tryd.prog 105 #[.func (.yield l) #[] #[], .pointer (some ⟨b1, 0, none⟩), .pointer (some ⟨b2, 0, none⟩)] W fun e W' => (∃ v, e = .returned v) ∧
      ((∃ ys, ys = erl D K 0 ∧ J ys W') ∨ (∃ pre, pre <+: erl D K 0 ∧ Jx pre W')) := by
  have H1 := Lib.hid h1
  have H2 := Lib.hid h2
  have H3 := Lib.hid h3
  have H4 := Lib.hid h4
  have HLD := Lib.hid hD
  have HLK := Lib.hid hK
  refine callsIn_of_wp Tryd.func105 rfl trivial ?_ rfl
  simp only [Tryd.ntmps105, List.size_toArray, List.length_cons, List.length_nil, Nat.reduceAdd, Nat.reduceSub, Array.replicate_succ, Array.replicate_zero, List.push_toArray, List.append_toArray, List.nil_append, List.cons_append]
  clear h2 h3 h4 hD hK
  gi_wp2
  clear h1
  gi_loopw [7] (fun x wr => ∃ (pre : List (Fin 19)) (i : Nat), x = .int .i64 i ∧ i ≤ 19 ∧ Hid (erl D K 0 = pre ++ erl D K i) ∧ Hid (KS (KB b1 b2 g1 g2) W wr) ∧ Hid (pre.length ≤ i) ∧ J pre wr)
    (fun x _ => 19 - (intOf x).toNat)
  case atStart => exact ⟨[], 0, rfl, by omega, Lib.hid (by simp), Lib.hid (KS.refl _ _), Lib.hid (by simp), h0⟩
  case round =>
    obtain ⟨pre, i, rfl, hi, HX, HB, HLP, hJ⟩ := hrel
    by_cases hlt : i < 19
    · obtain ⟨x, hx⟩ : ∃ x, D[i]? = some x := ⟨_, List.getElem?_eq_getElem (by rw [HLD.out]; exact hlt)⟩
      obtain ⟨y, hy⟩ : ∃ y, K[i]? = some y := ⟨_, List.getElem?_eq_getElem (by rw [HLK.out]; exact hlt)⟩
      have c1 := (HB.out.cell (b := b1) (o := 0) (.inl rfl)).trans H1.out
      have c2 := (HB.out.cell (b := b2) (o := 0) (.inr (.inl rfl))).trans H2.out
      have c3 := (HB.out.cell (b := g1) (o := i) (.inr (.inr (.inl rfl)))).trans (H3.out.cell hx)
      have c4 := (HB.out.cell (b := g2) (o := i) (.inr (.inr (.inr rfl)))).trans (H4.out.cell hy)
      have HDR := Lib.hid (erl_drop D K i hlt)
      have HPX := Lib.hid (show D.getD i 0 = x by rw [List.getD_eq_getElem?_getD, hx]; rfl)
      have HPY := Lib.hid (show K.getD i 0 = y by rw [List.getD_eq_getElem?_getD, hy]; rfl)
      clear hx hy
      have b5 : (i : Int) < 19 := by omega
      have mixed : Tryd.prog.follows Departure.mixedOrders = true := by kernel_rfl
      have HB0 := Lib.hid (show KS (KB b1 b2 g1 g2) W wr.drew from HB.out.drewN 1)
      by_cases hm : x < y
      · have hm2 : (x : Int) < y := by omega
        have HX2 := Lib.hid (show erl D K 0 = (pre ++ [⟨i, hlt⟩]) ++ erl D K (i + 1) by rw [HX.out, HDR.out, HPX.out, HPY.out, if_pos hm, List.append_assoc])
        obtain ⟨fn, tmps, assign, body, hy, hR⟩ := hY pre ⟨i, hlt⟩ wr.drew (hJd _ _ 1 hJ) (by have := HLP.out; omega)
        unfold EI at hy
        have hR2 : RoundIn Fence.wide (n - 1) Tryd.prog l fn tmps assign body wr.drew fun e W' => ∃ bb : Bool, e = .returned (.bool bb) ∧ ((bb = true ∧ J (pre ++ [⟨i, hlt⟩]) W' ∧ KS (KB b1 b2 g1 g2) wr.drew W') ∨ (bb = false ∧ Jx (pre ++ [⟨i, hlt⟩]) W')) := hR.mono fun e W' h => by
          rcases h with ⟨he, h1, h2⟩ | ⟨he, h1⟩
          · exact ⟨true, he, .inl ⟨rfl, h1, h2⟩⟩
          · exact ⟨false, he, .inr ⟨rfl, h1⟩⟩
        clear hR
        gi_wp2
        gi_region_with_o (refine ⟨fun _ => (by omega), hR2.mono ?_⟩; rintro e W3 ⟨bb, rfl, h3⟩)
        all_goals
          rcases h3 with ⟨rfl, hJ3, hk3⟩ | ⟨rfl, hJx3⟩
          · have HB3 := Lib.hid (HB0.out.trans hk3)
            clear hR2 hk3
            gi_wp2
            go_roundw
            case rel => exact ⟨pre ++ [⟨i, hlt⟩], i + 1, by go_num, by omega, HX2, HB3, Lib.hid (by have := HLP.out; simp; omega), hJ3⟩
            case measure => simp [intOf]; omega
          · clear hR2
            gi_wp2
            refine bodyPost_ret (results_none rfl _ _ _) rfl ?_
            exact ⟨⟨_, rfl⟩, .inr ⟨pre ++ [⟨i, hlt⟩], ⟨_, HX2.out.symm⟩, hJx3⟩⟩
      · have hm2 : ¬ (x : Int) < y := by omega
        have hm3 : decide ((x : Int) < y) = false := decide_eq_false hm2
        have HX2 := Lib.hid (show erl D K 0 = pre ++ erl D K (i + 1) by rw [HX.out, HDR.out, HPX.out, HPY.out, if_neg hm]; rfl)
        clear hm2
        gi_wp2
        refine wpIn_region_quiet_lit rfl (by kernel_rfl) (by kernel_rfl) ?_
        repeat (gi_big_quiet_step (fail))
        refine BigFrame.wpQuietIn_skip (fun _ _ _ _ => trivial) (by simp [Region.wanted, yielded]) ?_
        simp only [Act.put, List.setIfInBounds_toArray, List.set_cons_zero, List.set_cons_succ]
        repeat (gi_big_quiet_step (fail))
        refine wpQuietIn_nil ?_
        rintro _ ⟨nq, rfl⟩
        have hJd' := hJd _ _ nq hJ
        have HB1 := Lib.hid (HB.out.drewN nq)
        gi_wp2
        go_roundw
        case rel => exact ⟨pre, i + 1, by go_num, by omega, HX2, HB1, Lib.hid (by have := HLP.out; omega), hJd'⟩
        case measure => simp [intOf]; omega
    · obtain rfl : i = 19 := by omega
      gi_wp2
      go_end0
      exact ⟨⟨_, rfl⟩, .inl ⟨pre, by rw [HX.out, erl_end, List.append_nil], hJ⟩⟩

set_option maxHeartbeats 1000000 in
theorem earlier_all (A B : Option Addr) (n c m d : Nat) (w : World) : Calls Tryd.prog 87 #[.slice A n c, .slice B m d] w fun e w' =>
    e = .returned (.func (.func 105) #[] #[.pointer (some ⟨w.heap.size, 0, none⟩), .pointer (some ⟨w.heap.size + 1, 0, none⟩)]) ∧
    w' = (w.alloc (.cells #[.slice A n c] 42)).alloc (.cells #[.slice B m d] 42) := by
  go_enter Tryd.func87, Tryd.ntmps87
  go_wp2_with fail
  go_ret
  exact ⟨by simp, rfl⟩
theorem earlier_stops (n : Nat) (hn : 2 ≤ n) (b1 b2 g1 g2 : Nat) (t1 t2 : TypeId) (D K : List Nat) (hD : D.length = 19) (hK : K.length = 19)
    (w : World) (hS : ∀ i, KB b1 b2 g1 g2 i → i < w.heap.size) (h1 : w.cell? ⟨b1, 0, none⟩ = some (.slice (some ⟨g1, 0, none⟩) 19 19)) (h2 : w.cell? ⟨b2, 0, none⟩ = some (.slice (some ⟨g2, 0, none⟩) 19 19))
    (h3 : RowN w g1 t1 D) (h4 : RowN w g2 t2 K) :
    SeqStopsK Fence.wide n Tryd.prog 105 #[.pointer (some ⟨b1, 0, none⟩), .pointer (some ⟨b2, 0, none⟩)] EI (KS (KB b1 b2 g1 g2)) (fun ys => ys = erl D K 0) (fun pre => pre <+: erl D K 0) 20 w := fun l J Jx W hW hJ _ hY h0 =>
  earlier1_in n hn l b1 b2 g1 g2 t1 t2 D K hD hK J Jx hY (fun pre W1 m h => hJ pre W1 (W1.drewN m) none h ⟨rfl, rfl, rfl, Nat.le_refl _, fun _ _ _ => rfl⟩ (fun r e => by cases e)) W
    ((hW.cell (p := ⟨b1, 0, none⟩) (hS _ (.inl rfl))).trans h1) ((hW.cell (p := ⟨b2, 0, none⟩) (hS _ (.inr (.inl rfl)))).trans h2) (h3.keep (hW.block g1 (hS _ (.inr (.inr (.inl rfl)))))) (h4.keep (hW.block g2 (hS _ (.inr (.inr (.inr rfl)))))) h0
end Go.Proofs.YteicbdjennjcdaaDoor
