/- Chains: the laws of loads and stores of digests inside a fence; the iterator over the reached elements. -/
import Derived.RangeFuncNested
import Derived.RangeFuncBound
import Derived.RangeFuncCalls
import Derived.RangeFuncLeaves
import Derived.RangeFuncBox
import Derived.Shelf.Abstract
import Derived.Shelf.RegionOpen
import Derived.OwnWalkIn
import Derived.TacticsInMore
import Derived.LoopNIn
import Derived.LoopIn
import Derived.Maps.AppendAt
import Derived.Test.YtllkkafajchioaaDoorXE
namespace Go.Proofs.YtllkkafajchioaaDoor
open Go.RowKit Go.Shelf

section
variable {F : Fence} {n : Nat} {ops : Array Oper} {rest : List Oper} {o : Oper} {a : Act} {w : World} {Q : Exit → Act → World → Prop}
theorem in_value (v : Value) (w' : World) (hg : o.guard = none) (ha : o.about Tryd.prog w a.eval = none) (hd : ∀ c, o.op ≠ .defer c) (hrun : (execOp a.eval o).run Tryd.prog w = .ok (.value v) w') (h : wpListIn F n Tryd.prog ops Q rest (a.put o.dst v) w') : wpListIn F n Tryd.prog ops Q (o :: rest) a w := by
  refine wpListIn_plain hg fun K hK => ?_
  unfold Oper.wpIn
  refine ⟨(fun f hf => by rw [ha] at hf; cases hf), ?_⟩
  rw [Oper.semAt_plain F _ _ hd, hrun]
  exact hK _ _ h
theorem in_skip (w' : World) (hg : o.guard = none) (ha : o.about Tryd.prog w a.eval = none) (hd : ∀ c, o.op ≠ .defer c) (hrun : (execOp a.eval o).run Tryd.prog w = .ok .skip w') (h : wpListIn F n Tryd.prog ops Q rest (a.put o.dst undef) w') : wpListIn F n Tryd.prog ops Q (o :: rest) a w := by
  refine wpListIn_plain hg fun K hK => ?_
  unfold Oper.wpIn
  refine ⟨(fun f hf => by rw [ha] at hf; cases hf), ?_⟩
  rw [Oper.semAt_plain F _ _ hd, hrun]
  exact hK _ _ h
theorem in_load (hg : o.guard = none) (x : Operand) (ho : o.op = .load 23 x) (b ofs : Nat) (d : List UInt8) (hx : a.eval x = .pointer (some ⟨b, ofs, none⟩)) (h : w.rangeAt b ofs (U d)) (hd : d.length = 32)
    (hK : wpListIn F n Tryd.prog ops Q rest (a.put o.dst (.agg (U d).toArray)) w) : wpListIn F n Tryd.prog ops Q (o :: rest) a w :=
  in_value _ w hg (by simp [Oper.about, ho]) (by rw [ho]; intro c hc; cases hc) (by
    unfold execOp
    simp only [ho, hx, Instr.loadAt, Instr.sureAddr, Sem.run_bind, Sem.run_pure, Result.andThen_ok, run_loadVar_mid w b ofs 23 (U d) _ h Tryd.underlying23 rfl (by rw [sz32, U_length, hd])]) hK
theorem in_store (hg : o.guard = none) (x y : Operand) (ho : o.op = .store 23 x y) (g : Nat) (l l' : List UInt8) (hx : a.eval x = .pointer (some ⟨g, 0, none⟩)) (hy : a.eval y = .agg (U l').toArray) (h : RowB w g 23 l) (hl : l.length = 32) (hl' : l'.length = 32)
    (hK : wpListIn F n Tryd.prog ops Q rest (a.put o.dst undef) (w.setRow g (U l').toArray)) : wpListIn F n Tryd.prog ops Q (o :: rest) a w :=
  in_skip _ hg (by simp [Oper.about, ho]) (by rw [ho]; intro c hc; cases hc) (by
    have h1 := run_storeVar_row (P := Tryd.prog) w g 23 23 _ (U l').toArray h (by rw [sz32, U_size, hl']) (by rw [U_size, U_size, hl, hl']) (U_ones l')
    unfold execOp
    simp only [ho, hx, hy, Instr.storeAt, Instr.sureAddr, Sem.run_bind, Sem.run_pure, Result.andThen_ok, h1]) hK
theorem in_bs (hg : o.guard = none) (x : Operand) (ho : o.op = .buildSlice 24 1 #[(0, x)]) (d : List UInt8) (hx : a.eval x = .agg (U d).toArray) (hd : d.length = 32)
    (hK : wpListIn F n Tryd.prog ops Q rest (a.put o.dst (.slice (some ⟨w.heap.size, 0, none⟩) 1 1)) (w.alloc (.cells (U d).toArray 23))) : wpListIn F n Tryd.prog ops Q (o :: rest) a w :=
  in_value _ _ hg (by simp [Oper.about, ho]) (by rw [ho]; intro c hc; cases hc) (by
    have h1 := run_bs d hd w
    unfold execOp
    simp [ho, hx, h1, Result.andThen]) hK
end

attribute [local go_sem] Oper.semAt_some

/-- a digest made of anything -/
def nz (x : List UInt8) : List UInt8 := if x.length = 32 then x else z32
theorem nz_len (x : List UInt8) : (nz x).length = 32 := by
  unfold nz
  split
  · assumption
  · rfl
theorem nz_eq (x : List UInt8) (h : x.length = 32) : nz x = x := if_pos h
def ED (x : List UInt8) : Array Value := #[.agg (U (nz x)).toArray]
/-- what is reached by so many steps -/
def rc (L : List (List UInt8)) (D : List Nat) (k : Nat) : List (List UInt8) := (List.range k).map fun i => sn (D.getD i 0) (L.getD i [])
theorem rc_len (L : List (List UInt8)) (D : List Nat) (k : Nat) : (rc L D k).length = k := by simp [rc]
theorem rc_succ (L : List (List UInt8)) (D : List Nat) (k : Nat) : rc L D (k + 1) = rc L D k ++ [sn (D.getD k 0) (L.getD k [])] := by simp [rc, List.range_succ]
theorem rc_pre (L : List (List UInt8)) (D : List Nat) (k m : Nat) (h : k ≤ m) : rc L D k <+: rc L D m := by
  obtain ⟨j, rfl⟩ : ∃ j, m = k + j := ⟨m - k, by omega⟩
  clear h
  induction j with
  | zero => exact List.prefix_refl _
  | succ j ih => rw [← Nat.add_assoc, rc_succ]; exact ih.trans (List.prefix_append _ _)

/-- these blocks are as they were -/
def KS (S : Nat → Prop) (W W' : World) : Prop := ∀ i, S i → W'.heap[i]? = W.heap[i]?
theorem KS.refl (S : Nat → Prop) (W : World) : KS S W W := fun _ _ => rfl
theorem KS.trans {S : Nat → Prop} {A B C : World} (h : KS S A B) (h' : KS S B C) : KS S A C := fun i hi => (h' i hi).trans (h i hi)
theorem KS.lt {S : Nat → Prop} {W W' : World} (h : KS S W W') {i : Nat} (hi : S i) (hl : i < W.heap.size) : i < W'.heap.size := by
  have h1 := h i hi
  rw [Array.getElem?_eq_getElem hl] at h1
  exact (Array.getElem?_eq_some_iff.1 h1).1
theorem ks_below {S : Nat → Prop} {W W' : World} {B : Nat} (h : Below B W W') (hS : ∀ i, S i → i < B) : KS S W W' := fun i hi => h.block i (hS i hi)

set_option maxRecDepth 100000 in
set_option maxHeartbeats 4000000 in
theorem reach1_in (n : Nat) (hn : 2 ≤ n) (l b1 b2 : Nat) (S : Nat → Prop) (L : List (List UInt8)) (A : Option Addr) (cap : Nat) (D : List Nat) (hL : L.length = 19) (hD : D.length = 19) (h3 : ∀ d ∈ D, d ≤ 3) (J Jx : List (List UInt8) → World → Prop)
    (hY : ∀ pre x W, J pre W → pre.length < 19 → YieldAt Fence.wide (n - 1) Tryd.prog l (ED x) W fun e W' =>
      (e = .returned (.bool true) ∧ J (pre ++ [x]) W' ∧ KS S W W') ∨ (e = .returned (.bool false) ∧ Jx (pre ++ [x]) W'))
    (hJd : ∀ pre W W', J pre W → Below W.heap.size W W' → J pre W')
    (W : World) (hS : ∀ i, S i → i < W.heap.size) (_hb1 : S b1) (hb2 : S b2) (h0n : S 0) (h1 : W.cell? ⟨b1, 0, none⟩ = some (.slice A L.length cap)) (h2 : RowN W b2 47 D) (hl : DL W S L A cap) (hk : KR W Kt) (h0 : J [] W) :
    CallsIn Fence.wide n Tryd.prog 44 #[.func (.yield l) #[] #[], .pointer (some ⟨b1, 0, none⟩), .pointer (some ⟨b2, 0, none⟩)] W fun e W' => (∃ v, e = .returned v) ∧
      ((∃ ys, ys = rc L D 19 ∧ J ys W') ∨ (∃ pre, pre <+: rc L D 19 ∧ Jx pre W')) := by
  have H1 := Lib.hid h1
  have H2 := Lib.hid h2
  have HL := Lib.hid hl
  have HK := Lib.hid hk
  have HD := Lib.hid hD
  have HLL := Lib.hid hL
  have H3 := Lib.hid h3
  have hcap := hl.1
  have hcm : cap ≤ 9223372036854775807 := hl.2.1
  clear h1 h2 hl hk hD h3
  rw [hL] at H1 hcap
  obtain ⟨b, ofs, rfl, hSb, _⟩ := HL.out.2.2.2.2 (by rw [hL]; omega)
  clear hL
  refine callsIn_of_wp Tryd.func44 rfl trivial ?_ rfl
  simp only [Tryd.ntmps44, List.size_toArray, List.length_cons, List.length_nil, Nat.reduceAdd, Nat.reduceSub, Array.replicate_succ, Array.replicate_zero, List.push_toArray, List.append_toArray, List.nil_append, List.cons_append]
  have c1 := H1.out
  gi_wp2
  clear c1
  gi_loopw [8] (fun x wr => ∃ (k : Nat), x = .int .i64 k ∧ k ≤ 19 ∧ Hid (KS S W wr) ∧ J (rc L D k) wr)
    (fun x _ => 19 - (intOf x).toNat)
  case atStart => exact ⟨0, rfl, by omega, Lib.hid (KS.refl _ _), h0⟩
  case round =>
    obtain ⟨k, rfl, hk, HB, hJ⟩ := hrel
    by_cases hlt : k < 19
    · obtain ⟨x, hx⟩ : ∃ x, L[k]? = some x := ⟨_, List.getElem?_eq_getElem (by rw [HLL.out]; exact hlt)⟩
      obtain ⟨d, hd⟩ : ∃ d, D[k]? = some d := ⟨_, List.getElem?_eq_getElem (by rw [HD.out]; exact hlt)⟩
      have hd3 := H3.out d (List.mem_of_getElem? hd)
      have hx32 := HL.out.2.2.2.1 x (List.mem_of_getElem? hx)
      have hz2 := HB.out.lt hb2 (hS _ hb2)
      have hz0 := HB.out.lt h0n (hS _ h0n)
      obtain ⟨b', ofs', e, _, hc⟩ := (HL.out.keep (S' := S) fun i hi => ⟨hi, HB.out i hi⟩).2.2.2.2 (by rw [HLL.out]; omega)
      injection e with e
      injection e with e1 e2
      subst e1 e2
      have hcx := hc k x hx
      have HX32 := Lib.hid hx32
      have HRC := Lib.hid (show rc L D (k + 1) = rc L D k ++ [sn d x] by rw [rc_succ, List.getD_eq_getElem?_getD, hd, List.getD_eq_getElem?_getD, hx]; rfl)
      have HDC := Lib.hid ((H2.out.keep (HB.out b2 hb2)).cell hd)
      clear hc hx hd hx32
      have b5 : (k : Int) < 19 := by omega
      have n5 : RowB (wr.alloc (.cells (U (flb 32 [])).toArray 23)) wr.heap.size 23 (flb 32 []) := heap_alloc_new wr _
      have HG := Lib.hid (show ∀ W5, (wr.alloc (.cells (U (flb 32 [])).toArray 23)).setRow wr.heap.size (U x).toArray = W5 → RowB W5 wr.heap.size 23 (sn 0 x) ∧ Below wr.heap.size wr W5 ∧ W5.heap.size = wr.heap.size + 1 ∧ W5.cell? ⟨b2, k, none⟩ = some (.int .i64 (d : Int)) from fun W5 h => by
        subst h
        have hb : Below wr.heap.size wr ((wr.alloc (.cells (U (flb 32 [])).toArray 23)).setRow wr.heap.size (U x).toArray) := below_setRow ((Below.refl _ _).alloc (Nat.le_refl _) _) (Nat.le_refl _) _
        exact ⟨n5.setRow x, hb, by simp, (hb.cell (p := ⟨b2, k, none⟩) (by show b2 < _; omega)).trans HDC.out⟩)
      gi_wp2_with (first
        | (refine in_load rfl (.tmp 11) rfl b (ofs + k * 32) x rfl hcx HX32.out ?_)
        | (refine in_store rfl (.tmp 5) (.tmp 12) rfl wr.heap.size (flb 32 []) x rfl rfl n5 (by simp [flb]) HX32.out ?_; generalize hW5 : (wr.alloc _).setRow _ _ = W5; obtain ⟨r5, hb5, hz5, hcd⟩ := HG.out W5 hW5; clear hW5 n5; have R5 := Lib.hid r5; have HB5 := Lib.hid hb5; have HZ5 := Lib.hid hz5; clear r5 hb5 hz5))
      clear hcd hcx
      obtain ⟨wo, hwo⟩ : ∃ wo : World, wo = wr := ⟨_, rfl⟩
      rw [← hwo] at HB5 R5 HZ5 HDC hJ hz2 hz0 HB ⊢
      clear hwo HG
      gi_loopw [16] (fun y wq => ∃ (j : Nat), y = .int .i64 j ∧ j ≤ d ∧ Hid (RowB wq wo.heap.size 23 (sn j x)) ∧ Hid (Below wo.heap.size wo wq) ∧ wo.heap.size < wq.heap.size)
        (fun y _ => d - (intOf y).toNat)
      case atStart => exact ⟨0, rfl, by omega, R5, HB5, by rw [HZ5.out]; omega⟩
      case round =>
        obtain ⟨j, rfl, hj, HR, HQ, hzq⟩ := hrel
        have HSN := Lib.hid (sn_len j x HX32.out)
        by_cases hjd : j < d
        · have C := ctag_step wo.heap.size (sn j x) wr HSN.out HR.out (HK.out.keep ((HQ.out.block 0 hz0).trans (HB.out 0 h0n)))
          have CC := Lib.hid ((callsIn_wide (n := n - 1)).2 C)
          clear C
          gi_wp2
          refine ⟨trivial, fun _ => (by omega), ?_⟩
          gi_at_call 40
          (with_reducible refine CC.out.mono ?_)
          rintro e w6 ⟨rfl, hb6⟩
          have hz6 := hb6.size
          have hr6 := HR.out.keep (hb6.block _ hzq)
          have HR7 := Lib.hid (hr6.setRow (sn (j + 1) x))
          have HB7 := Lib.hid (below_setRow (HQ.out.trans (hb6.mono (by omega))) (Nat.le_refl _) (U (sn (j + 1) x)).toArray)
          clear CC hb6
          gi_wp2_with (refine in_store rfl (.tmp 5) (.tmp 20) rfl wo.heap.size (sn j x) (sn (j + 1) x) rfl rfl hr6 HSN.out (sd_len _) ?_)
          go_roundw
          case rel => exact ⟨j + 1, rfl, by omega, HR7, HB7, by simp; omega⟩
          case measure => simp [intOf]; omega
        · have hjd2 : j = d := by omega
          rw [hjd2] at HR HSN ⊢
          clear hjd2 hjd hj
          have hJ2 := hJd _ wo wr hJ HQ.out
          have hrg := HR.out.range
          have HBQ := Lib.hid (HB.out.trans (ks_below HQ.out fun i hi => HB.out.lt hi (hS i hi)))
          obtain ⟨fn, tmps, assign, body, hy, hR⟩ := hY (rc L D k) (sn d x) wr hJ2 (by rw [rc_len]; exact hlt)
          unfold ED at hy
          rw [nz_eq _ HSN.out] at hy
          gi_wp2_with (refine in_load rfl (.tmp 5) rfl wo.heap.size 0 (sn d x) rfl hrg HSN.out ?_)
          refine ⟨fun _ => (by omega), hR.mono ?_⟩
          rintro e W3 (⟨rfl, hJ3, hk3⟩ | ⟨rfl, hJx3⟩)
          · rw [← HRC.out] at hJ3
            have HB3 := Lib.hid (HBQ.out.trans hk3)
            clear hR hk3 hrg
            gi_wp2
            go_roundw
            case rel => exact ⟨k + 1, by go_num, by omega, HB3, hJ3⟩
            case measure => simp [intOf]; omega
          · clear hR hrg
            gi_wp2
            refine bodyPost_ret (results_none rfl _ _ _) rfl ?_
            exact ⟨⟨_, rfl⟩, .inr ⟨rc L D k ++ [sn d x], by rw [← HRC.out]; exact rc_pre L D (k + 1) 19 (by omega), hJx3⟩⟩
    · obtain rfl : k = 19 := by omega
      gi_wp2
      go_end0
      exact ⟨⟨_, rfl⟩, .inl ⟨_, rfl, hJ⟩⟩

set_option maxHeartbeats 1000000 in
theorem reached_all (A : Option Addr) (n cap : Nat) (D : List Nat) (w : World) : Calls Tryd.prog 36 #[.slice A n cap, .agg (NI D).toArray] w fun e w' =>
    e = .returned (.func (.func 44) #[] #[.pointer (some ⟨w.heap.size, 0, none⟩), .pointer (some ⟨w.heap.size + 1, 0, none⟩)]) ∧
    w' = (w.alloc (.cells #[.slice A n cap] 24)).alloc (.cells (NI D).toArray 47) := by
  go_enter Tryd.func36, Tryd.ntmps36
  go_wp2_with fail
  go_ret
  exact ⟨by simp, rfl⟩
/-- the iterator hands over what is reached, in order -/
theorem reached_stops (n : Nat) (hn : 2 ≤ n) (b1 b2 : Nat) (S : Nat → Prop) (L : List (List UInt8)) (A : Option Addr) (cap : Nat) (D : List Nat) (hL : L.length = 19) (hD : D.length = 19) (h3 : ∀ d ∈ D, d ≤ 3)
    (w : World) (hS : ∀ i, S i → i < w.heap.size) (hb1 : S b1) (hb2 : S b2) (h0n : S 0) (h1 : w.cell? ⟨b1, 0, none⟩ = some (.slice A L.length cap)) (h2 : RowN w b2 47 D) (hl : DL w S L A cap) (hk : KR w Kt) :
    SeqStopsK Fence.wide n Tryd.prog 44 #[.pointer (some ⟨b1, 0, none⟩), .pointer (some ⟨b2, 0, none⟩)] ED (KS S) (fun ys => ys = rc L D 19) (fun pre => pre <+: rc L D 19) 19 w := fun l J Jx W hW hJ _ hY h0 =>
  reach1_in n hn l b1 b2 S L A cap D hL hD h3 J Jx hY (fun pre W1 W2 h hb => hJ pre W1 W2 none h ⟨hb.os, hb.tape, hb.output, hb.size, fun k hk _ => hb.block k hk⟩ (fun r e => by cases e)) W (fun i hi => Nat.lt_of_lt_of_le (hS i hi) hW.size) hb1 hb2 h0n
    ((hW.cell (p := ⟨b1, 0, none⟩) (hS _ hb1)).trans h1) (h2.keep (hW.block b2 (hS _ hb2))) (hl.keep fun i hi => ⟨hi, hW.block i (hS i hi)⟩) (hk.keep (hW.block 0 (hS _ h0n))) h0
theorem ks_put {S : Nat → Prop} {B : Nat} (hS : ∀ i, S i → i < B) (W : World) (l : Nat) (o' : Obj) (hl : B ≤ l) : KS S W (W.putObj l o') := fun i hi => World.putObj_heap_other (by have := hS i hi; omega)
end Go.Proofs.YtllkkafajchioaaDoor
