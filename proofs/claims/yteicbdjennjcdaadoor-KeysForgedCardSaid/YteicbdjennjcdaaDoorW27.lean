/- Keys: KeysPath, KeysAccept. -/
import Derived.Test.YteicbdjennjcdaaDoorW26
import Derived.Lib.LazyBuf
import Derived.Laws.MakeOwn
import Derived.IntWalk
namespace Go.Proofs.YteicbdjennjcdaaDoor
set_option maxRecDepth 100000
open Go.RowKit

theorem ev_fieldL2 {o : Oper} {a : Act} {w : World} (x : Operand) (g : Nat) (s : Lf) (ho : o.op = .fieldAddr 28 x 2) (hx : a.eval x = .pointer (some ⟨g, 0, none⟩)) (h : BxL w g s) :
    (execOp a.eval o).run Tryd.prog w = .ok (.value (.pointer (some ⟨g, 2, none⟩))) w := by
  have c0 := h.c0
  unfold execOp
  simp only [ho, hx]
  go_simp
theorem box3D (w : World) (r m a : List UInt8) (W1 : World) (h : ((w.alloc (.cells (U r).toArray 23)).alloc (.cells (U m).toArray 23)).alloc (.cells (U a).toArray 23) = W1) :
    RowB W1 w.heap.size 23 r ∧ RowB W1 (w.heap.size + 1) 23 m ∧ RowB W1 (w.heap.size + 2) 23 a ∧ Below w.heap.size w W1 ∧ w.heap.size + 3 ≤ W1.heap.size := by
  obtain ⟨h1, h2, h3, h4, h5⟩ := box3 w _ _ _ _ _ _ W1 h
  exact ⟨h1, h2, h3, h4, by omega⟩

set_option maxHeartbeats 6400000 in
theorem path_all (sd : List UInt8) (n i : Int) (m q : List UInt8) (w : World) (_h1 : -9223372036854775808 ≤ n) (_h2 : n ≤ 9223372036854775807) (_hi1 : -9223372036854775808 ≤ i) (_hi2 : i ≤ 9223372036854775807) (hs : sd.length = 32) (hm : m.length = 32) (hq : q.length = 32) (hk : KR w Kt) :
    Calls Tryd.prog 9 #[.agg (U sd).toArray, .int .i64 n, .int .i64 i, .agg (U m).toArray, .agg (U q).toArray] w fun e w' => e = .returned (.bool true) ∧ Below w.heap.size w w' := by
  obtain ⟨f, hf⟩ : ∃ f, f = 1099511627776 := ⟨_, rfl⟩
  have HS := Lib.hid hs
  have HM := Lib.hid hm
  have HQ := Lib.hid hq
  have HF := Lib.hid hf
  have hlt0 := hk.lt
  go_enter Tryd.func9, Tryd.ntmps9
  go_upto_region 1 with fail
  generalize hW1 : ((w.alloc _).alloc _).alloc _ = W1
  obtain ⟨b1, b2, b3, hb1, hz1⟩ := box3D w sd m q W1 hW1
  have F1 := Lib.hid b1
  have F2 := Lib.hid b2
  have F0 := Lib.hid b3
  have HKR := Lib.hid (hk.keep (hb1.block 0 hlt0))
  have HB := Lib.hid hb1
  clear hW1 b1 b2 b3 hb1 hz1 hs hm hf hk hq
  go_wp2_with fail
  refine (sane_all f HF.out W1 HKR.out).mono ?_
  rintro e w2 ⟨rfl, hb⟩
  have F1 := Lib.hid (F1.out.keep (hb.block _ F1.out.lt))
  have F2 := Lib.hid (F2.out.keep (hb.block _ F2.out.lt))
  have F0 := Lib.hid (F0.out.keep (hb.block _ F0.out.lt))
  have HKR := Lib.hid (HKR.out.keep (hb.block 0 HKR.out.lt))
  have HB := Lib.hid (HB.out.trans (hb.mono HB.out.size))
  clear hb
  go_wp2_with fail
  refine (rFew_all n Lf.zero w2).mono ?_
  rintro e w3 ⟨rfl, hb⟩
  have F1 := Lib.hid (F1.out.keep (hb.block _ F1.out.lt))
  have F2 := Lib.hid (F2.out.keep (hb.block _ F2.out.lt))
  have F0 := Lib.hid (F0.out.keep (hb.block _ F0.out.lt))
  have HKR := Lib.hid (HKR.out.keep (hb.block 0 HKR.out.lt))
  have HB := Lib.hid (HB.out.trans (hb.mono HB.out.size))
  clear hb
  obtain ⟨fw, hfw⟩ : ∃ fw, fewB n Lf.zero = fw := ⟨_, rfl⟩
  rw [hfw]
  cases fw with
  | false =>
    go_wp2_with fail
    go_ret
    exact ⟨rfl, HB.out⟩
  | true =>
    have hnn := (few_len hfw).1
    clear hfw
    have r1 := F1.out
    have r2 := F2.out
    have C := Lib.hid (Sign_any f HF.out sd m n i w3 HS.out HM.out HKR.out)
    go_wp2_with (first | (refine load_B rfl (.tmp 5) rfl w.heap.size rfl 23 sd r1 HS.out ?_) | (refine load_B rfl (.tmp 8) rfl (w.heap.size + 1) rfl 23 m r2 HM.out ?_))
    refine C.out.mono ?_
    rintro e w4 ⟨t, x, rfl, hsg, hb⟩
    clear C r1 r2
    have F1 := Lib.hid (F1.out.keep (hb.block _ F1.out.lt))
    have F2 := Lib.hid (F2.out.keep (hb.block _ F2.out.lt))
    have F0 := Lib.hid (F0.out.keep (hb.block _ F0.out.lt))
    have HKR := Lib.hid (HKR.out.keep (hb.block 0 HKR.out.lt))
    have HB := Lib.hid (HB.out.trans (hb.mono HB.out.size))
    clear hb
    have HOt := Lib.hid hsg.ok
    have SG1 := Lib.hid hsg
    clear hsg
    have n0 := newL0 w4
    have HG := Lib.hid (newL w4 t)
    go_upto_region 6 with (refine store_L rfl (.tmp 11) (.tmp 28) rfl w4.heap.size Lf.zero t rfl rfl n0 ?_)
    generalize hW : World.setRow _ _ _ = w5
    obtain ⟨r0, hb⟩ := HG.out w5 hW
    have F1 := Lib.hid (F1.out.keep (hb.block _ F1.out.lt))
    have F2 := Lib.hid (F2.out.keep (hb.block _ F2.out.lt))
    have F0 := Lib.hid (F0.out.keep (hb.block _ F0.out.lt))
    have HOt := Lib.hid (hok1 HOt.out hb)
    have HKR := Lib.hid (HKR.out.keep (hb.block 0 HKR.out.lt))
    have HB := Lib.hid (HB.out.trans (hb.mono HB.out.size))
    clear hb
    have F5 := Lib.hid r0
    clear hW HG n0 r0
    have r0' := F0.out
    have r1 := F1.out
    have r2 := F2.out
    have C := Lib.hid (Sign_any f HF.out sd q n i w5 HS.out HQ.out HKR.out)
    go_wp2_with (first | (refine load_B rfl (.tmp 5) rfl w.heap.size rfl 23 sd r1 HS.out ?_) | (refine load_B rfl (.tmp 9) rfl (w.heap.size + 2) rfl 23 q r0' HQ.out ?_))
    refine C.out.mono ?_
    rintro e w6 ⟨u, y, rfl, hsg, hb⟩
    clear C r1 r2
    have F1 := Lib.hid (F1.out.keep (hb.block _ F1.out.lt))
    have F2 := Lib.hid (F2.out.keep (hb.block _ F2.out.lt))
    have F0 := Lib.hid (F0.out.keep (hb.block _ F0.out.lt))
    have F5 := Lib.hid (F5.out.keep (hb.block _ F5.out.lt))
    have HOt := Lib.hid (hok1 HOt.out hb)
    have HKR := Lib.hid (HKR.out.keep (hb.block 0 HKR.out.lt))
    have HB := Lib.hid (HB.out.trans (hb.mono HB.out.size))
    clear hb
    have HOu := Lib.hid hsg.ok
    have SG2 := Lib.hid hsg
    clear hsg
    have n0 := newL0 w6
    have HG := Lib.hid (newL w6 u)
    go_upto_region 7 with (refine store_L rfl (.tmp 13) (.tmp 36) rfl w6.heap.size Lf.zero u rfl rfl n0 ?_)
    generalize hW : World.setRow _ _ _ = w7
    obtain ⟨r0, hb⟩ := HG.out w7 hW
    have F1 := Lib.hid (F1.out.keep (hb.block _ F1.out.lt))
    have F2 := Lib.hid (F2.out.keep (hb.block _ F2.out.lt))
    have F0 := Lib.hid (F0.out.keep (hb.block _ F0.out.lt))
    have F5 := Lib.hid (F5.out.keep (hb.block _ F5.out.lt))
    have HOt := Lib.hid (hok1 HOt.out hb)
    have HOu := Lib.hid (hok1 HOu.out hb)
    have HKR := Lib.hid (HKR.out.keep (hb.block 0 HKR.out.lt))
    have HB := Lib.hid (HB.out.trans (hb.mono HB.out.size))
    clear hb
    have F6 := Lib.hid r0
    clear hW HG n0 r0
    clear r0'
    by_cases hn : NoLf n i
    · obtain ⟨_, hx⟩ := SG1.out.no hn
      obtain ⟨_, hy⟩ := SG2.out.no hn
      subst hx hy
      go_wp2_with fail
      go_ret
      exact ⟨rfl, HB.out⟩
    obtain ⟨t1, t2, t3, hx⟩ := SG1.out.yes hn
    obtain ⟨u1, u2, u3, hy⟩ := SG2.out.yes hn
    have HPE := Lib.hid (show t.P = u.P by rw [t3, u3])
    have HIE := Lib.hid (show t.i = u.i by rw [t1, u1])
    have HLN := Lib.hid (SG1.out.lens hnn)
    subst hx hy
    clear t1 t2 t3 u1 u2 u3 hn SG1 SG2
    obtain ⟨K, hK⟩ : ∃ K, t.P.length = K := ⟨_, rfl⟩
    have hK5 : K ≤ 5 := by have := HLN.out; omega
    have HK := Lib.hid hK
    have HKU := Lib.hid (show u.P.length = K by rw [← HPE.out]; exact hK)
    clear hK
    have KEEP := Lib.hid (show ∀ ww, Below w7.heap.size w7 ww → BxL ww w4.heap.size t ∧ BxL ww w6.heap.size u ∧ t.ok ww (· < ww.heap.size) ∧ u.ok ww (· < ww.heap.size) ∧ Below w.heap.size w ww from fun ww h => ⟨F5.out.keep (h.block _ F5.out.lt), F6.out.keep (h.block _ F6.out.lt), hok1 HOt.out h, hok1 HOu.out h, HB.out.trans (h.mono HB.out.size)⟩)
    have c2 := F5.out.c2
    have d2 := F6.out.c2
    rw [HK.out] at c2
    rw [HKU.out] at d2
    go_wp2_with fail
    clear c2 d2
    go_loopw [53] (fun y wr => ∃ k : Nat, y = .int .i64 k ∧ k ≤ K ∧ Hid (Below w7.heap.size w7 wr)) (fun y _ => K - (intOf y).toNat)
    case atStart => exact ⟨0, rfl, by omega, Lib.hid (Below.refl _ _)⟩
    case round =>
      obtain ⟨k, rfl, hk, HBr⟩ := hrel
      by_cases hlt : k < K
      · have b1 : (k : Int) < K := by omega
        obtain ⟨d, hd⟩ : ∃ d, t.P[k]? = some d := ⟨_, List.getElem?_eq_getElem (by rw [HK.out]; exact hlt)⟩
        have hd' : u.P[k]? = some d := by rw [← HPE.out]; exact hd
        obtain ⟨pb, po, hp, _, _⟩ := HOt.out.2.2.2.2.2 (by rw [HK.out]; omega)
        obtain ⟨ub, uo, hu, _, _⟩ := HOu.out.2.2.2.2.2 (by rw [HKU.out]; omega)
        have HD := Lib.hid (HOt.out.2.2.2.2.1 d (List.mem_of_getElem? hd))
        have HPP := Lib.hid hp
        have HPU := Lib.hid hu
        have HCC := Lib.hid (show ∀ ww, Below w7.heap.size w7 ww → ww.cell? ⟨w4.heap.size, 2, none⟩ = some (.slice (some ⟨pb, po, none⟩) K t.pc) ∧ ww.cell? ⟨w6.heap.size, 2, none⟩ = some (.slice (some ⟨ub, uo, none⟩) K u.pc) ∧ ww.rangeAt pb (po + k * 32) (U d) ∧ ww.rangeAt ub (uo + k * 32) (U d) from fun ww h => by
          obtain ⟨q1, q2, q3, q4, _⟩ := KEEP.out ww h
          have e1 := q1.c2
          have e2 := q2.c2
          rw [HK.out, HPP.out] at e1
          rw [HKU.out, HPU.out] at e2
          obtain ⟨pb', po', hp', _, hc1⟩ := q3.2.2.2.2.2 (by rw [HK.out]; omega)
          rw [HPP.out] at hp'
          injection hp' with hp'
          injection hp' with i1 i2
          subst i1 i2
          obtain ⟨ub', uo', hu', _, hc2⟩ := q4.2.2.2.2.2 (by rw [HKU.out]; omega)
          rw [HPU.out] at hu'
          injection hu' with hu'
          injection hu' with i1 i2
          subst i1 i2
          exact ⟨e1, e2, hc1 k d hd, hc2 k d hd'⟩)
        clear hd hd' hp hu
        go_wp2_with fail
        refine wp_region_noPanic ?_
        have h0 : Below w7.heap.size w7 wr.drew := HBr.out.drew
        refine wp_region_held_drew (S := fun ww => Below w7.heap.size w7 ww) (by kernel_rfl) h0 (fun _ => ?_)
        generalize wr.drew = V0 at h0 ⊢
        refine tk_val 0 56 (.pointer (some ⟨w4.heap.size, 2, none⟩)) rfl (by kernel_rfl) (by kernel_rfl) (by kernel_rfl) (fun _ _ _ _ h => h) rfl rfl (fun ww h => ev_fieldL2 (.tmp 11) w4.heap.size t rfl rfl (KEEP.out ww h).1) h0 ?_
        simp only [Act.put, List.setIfInBounds_toArray, List.set_cons_zero, List.set_cons_succ]
        refine tk_val 1 57 (.slice (some ⟨pb, po, none⟩) K t.pc) rfl (by kernel_rfl) (by kernel_rfl) (by kernel_rfl) (fun _ _ _ _ h => h) rfl rfl (fun ww h => ev_loadS1 (.tmp 56) w4.heap.size 2 _ _ _ rfl rfl (HCC.out ww h).1) h0 ?_
        simp only [Act.put, List.setIfInBounds_toArray, List.set_cons_zero, List.set_cons_succ]
        refine tk_move 2 58 (.tmp 15) (.int .i64 k) rfl (by kernel_rfl) (by kernel_rfl) (by kernel_rfl) (fun _ _ _ _ h => h) rfl rfl rfl rfl h0 ?_
        simp only [Act.put, List.setIfInBounds_toArray, List.set_cons_zero, List.set_cons_succ]
        refine tk_val 3 59 (.pointer (some ⟨pb, po + k * 32, none⟩)) rfl (by kernel_rfl) (by kernel_rfl) (by kernel_rfl) (fun _ _ _ _ h => h) rfl rfl (fun _ _ => ev_index (.tmp 57) (.tmp 58) pb po K t.pc k rfl rfl rfl hlt) h0 ?_
        simp only [Act.put, List.setIfInBounds_toArray, List.set_cons_zero, List.set_cons_succ]
        refine tk_load 4 60 (.tmp 59) pb (po + k * 32) d rfl (by kernel_rfl) (by kernel_rfl) (by kernel_rfl) (fun _ _ _ _ h => h) rfl rfl rfl rfl (fun ww h => (HCC.out ww h).2.2.1) HD.out h0 ?_
        simp only [Act.put, List.setIfInBounds_toArray, List.set_cons_zero, List.set_cons_succ]
        refine tk_val 5 61 (.pointer (some ⟨w6.heap.size, 2, none⟩)) rfl (by kernel_rfl) (by kernel_rfl) (by kernel_rfl) (fun _ _ _ _ h => h) rfl rfl (fun ww h => ev_fieldL2 (.tmp 13) w6.heap.size u rfl rfl (KEEP.out ww h).2.1) h0 ?_
        simp only [Act.put, List.setIfInBounds_toArray, List.set_cons_zero, List.set_cons_succ]
        refine tk_val 6 62 (.slice (some ⟨ub, uo, none⟩) K u.pc) rfl (by kernel_rfl) (by kernel_rfl) (by kernel_rfl) (fun _ _ _ _ h => h) rfl rfl (fun ww h => ev_loadS1 (.tmp 61) w6.heap.size 2 _ _ _ rfl rfl (HCC.out ww h).2.1) h0 ?_
        simp only [Act.put, List.setIfInBounds_toArray, List.set_cons_zero, List.set_cons_succ]
        refine tk_move 7 63 (.tmp 15) (.int .i64 k) rfl (by kernel_rfl) (by kernel_rfl) (by kernel_rfl) (fun _ _ _ _ h => h) rfl rfl rfl rfl h0 ?_
        simp only [Act.put, List.setIfInBounds_toArray, List.set_cons_zero, List.set_cons_succ]
        refine tk_val 8 64 (.pointer (some ⟨ub, uo + k * 32, none⟩)) rfl (by kernel_rfl) (by kernel_rfl) (by kernel_rfl) (fun _ _ _ _ h => h) rfl rfl (fun _ _ => ev_index (.tmp 62) (.tmp 63) ub uo K u.pc k rfl rfl rfl hlt) h0 ?_
        simp only [Act.put, List.setIfInBounds_toArray, List.set_cons_zero, List.set_cons_succ]
        refine tk_load 9 65 (.tmp 64) ub (uo + k * 32) d rfl (by kernel_rfl) (by kernel_rfl) (by kernel_rfl) (fun _ _ _ _ h => h) rfl rfl rfl rfl (fun ww h => (HCC.out ww h).2.2.2) HD.out h0 ?_
        simp only [Act.put, List.setIfInBounds_toArray, List.set_cons_zero, List.set_cons_succ]
        refine tk_val 10 66 (.bool false) rfl (by kernel_rfl) (by kernel_rfl) (by kernel_rfl) (fun _ _ _ _ h => h) rfl rfl (fun _ _ => ev_neq (.tmp 60) (.tmp 65) d HD.out rfl rfl rfl) h0 ?_
        simp only [Act.put, List.setIfInBounds_toArray, List.set_cons_zero, List.set_cons_succ]
        refine wpAnyH_done (by kernel_rfl) (NoPanic.normal ?_) _
        have H0 := Lib.hid h0
        clear h0
        go_wp2_with fail
        go_roundw
        case rel => exact ⟨k + 1, by go_num, by omega, H0⟩
        case measure => simp [intOf]; omega
      · obtain rfl : k = K := by omega
        have e0 := (KEEP.out _ HBr.out).1.c0
        have e1 := (KEEP.out _ HBr.out).2.1.c0
        rw [HIE.out] at e0
        have HBF := Lib.hid (KEEP.out _ HBr.out).2.2.2.2
        have hq1 : (u.i == u.i) = true := by simp
        go_wp2_with fail
        go_ret
        exact ⟨by simp, HBF.out⟩

/-- a new list of empty digests -/
theorem make_dig {ops : Array Oper} {rest : List Oper} {o : Oper} {a : Act} {w : World} {Q : Exit → Act → World → Prop} (hgd : o.guard = none) (x y : Operand) (ho : o.op = .makeSlice 26 x y) (k : Nat) (hk : k ≤ 1000) (hx : a.eval x = .int .i64 (k : Int)) (hy : a.eval y = .int .i64 (k : Int))
    (hK : wpList Tryd.prog ops Q rest (a.put o.dst (.slice (some ⟨w.heap.size, 0, none⟩) k k)) (w.alloc (.cells (madeCells (U z32).toArray (k * 32)) 23))) : wpList Tryd.prog ops Q (o :: rest) a w := by
  obtain ⟨i, hi, hz0, hz1, hz2⟩ := info_parts info_d
  have hrun := run_makeSlice (P := Tryd.prog) (w := w) 26 23 i (.agg (U z32).toArray) Tryd.underlying26 hi hz0 .i64 .i64 (k : Int) (k : Int) (by omega) (by omega) (by rw [hz1]; omega) (by rw [hz2]; omega) (by omega)
  rw [hz1, Int.toNat_natCast, show (Value.agg (U z32).toArray).cells = (U z32).toArray from rfl] at hrun
  refine wpList_plain hgd fun K hK' => ?_
  unfold Oper.wp
  simp [execOp, ho, hx, hy, hrun, Result.andThen]
  exact hK' _ _ hK
theorem wl_succ {ops : Array Oper} {rest : List Oper} {o : Oper} {a : Act} {w : World} {Q : Exit → Act → World → Prop} (hgd : o.guard = none) (x : Operand) (k k' : Nat) (hkk : k + 1 = k') (hk : k ≤ 1000000) (ho : o.op = .binOp .add 3 x (.const (.int .i64 1)) 3) (hx : a.eval x = .int .i64 (k : Int))
    (h : wpList Tryd.prog ops Q rest (a.put o.dst (.int .i64 (k' : Int))) w) : wpList Tryd.prog ops Q (o :: rest) a w := by
  subst hkk
  have hw : IntKind.i64.wrap ((k : Int) + 1) = ((k + 1 : Nat) : Int) := by rw [IntWalk.i64_in _ ⟨by omega, by omega⟩]; rfl
  have hrun : (execOp a.eval o).run Tryd.prog w = .ok (.value (.int .i64 ((k + 1 : Nat) : Int))) w := by
    rw [← hw]
    have hy : a.eval (.const (.int .i64 1)) = .int .i64 1 := rfl
    unfold execOp
    simp only [ho, hx, hy]
    go_simp
  refine wpList_plain hgd fun K hK => ?_
  unfold Oper.wp
  rw [hrun]
  exact hK _ _ h
theorem wl_val {ops : Array Oper} {rest : List Oper} {o : Oper} {a : Act} {w : World} {Q : Exit → Act → World → Prop} (hgd : o.guard = none) (v : Value) (hrun : (execOp a.eval o).run Tryd.prog w = .ok (.value v) w)
    (h : wpList Tryd.prog ops Q rest (a.put o.dst v) w) : wpList Tryd.prog ops Q (o :: rest) a w := by
  refine wpList_plain hgd fun K hK => ?_
  unfold Oper.wp
  rw [hrun]
  exact hK _ _ h
theorem z_at (j : Nat) (h : j < 32) : (U z32)[j]? = some (.int .u8 0) := by
  rw [U_get, z32, List.getElem?_replicate, if_pos h]
  rfl
/-- the list with one message in its last place -/
theorem made_list (w : World) (k : Nat) (hk : k ≤ 100) (m : List UInt8) (hm : m.length = 32) : ∀ W, (w.alloc (.cells (madeCells (U z32).toArray ((k + 1) * 32)) 23)).setCells w.heap.size (k * 32) (U m) = W →
    DL W (· < W.heap.size) (List.replicate k z32 ++ [m]) (some ⟨w.heap.size, 0, none⟩) (k + 1) ∧ Below w.heap.size w W ∧ (w.alloc (.cells (madeCells (U z32).toArray ((k + 1) * 32)) 23)).there w.heap.size (k * 32) 32 := by
  obtain ⟨W1, hW1⟩ : ∃ W1, w.alloc (.cells (madeCells (U z32).toArray ((k + 1) * 32)) 23) = W1 := ⟨_, rfl⟩
  have hn : W1.heap[w.heap.size]? = some (.cells (madeCells (U z32).toArray ((k + 1) * 32)) 23 (0, 0)) := by rw [← hW1]; exact heap_alloc_new w _
  have hb : Below w.heap.size w W1 := by rw [← hW1]; exact (Below.refl _ _).alloc (Nat.le_refl _) _
  have hc : ∀ j, j < (k + 1) * 32 → W1.cell? ⟨w.heap.size, j, none⟩ = some (.int .u8 0) := fun j hj => by
    rw [cell_of_row W1 w.heap.size j _ _ _ hn]
    have h32 : j % 32 < 32 := Nat.mod_lt _ (by omega)
    have := z_at (j % 32) h32
    have hs : (U z32).length = 32 := rfl
    rw [List.getElem?_eq_getElem (by rw [hs]; exact h32)] at this
    injection this with this
    simp [madeCells, hj, hs, this, h32]
  have hth : W1.there w.heap.size (k * 32) 32 := fun j hj => ⟨by rw [hc (k * 32 + j) (by omega)]; rfl, frozen_of_row W1 w.heap.size _ _ _ hn⟩
  rw [hW1]
  rintro W rfl
  have hul : (U m).length = 32 := by rw [U_length, hm]
  have hbb : Below w.heap.size w (W1.setCells w.heap.size (k * 32) (U m)) := below_setCells (Nat.le_refl _) (U m) (k * 32) W1 hb
  refine ⟨⟨by simp, by simp only [maxLen]; omega, (fun e => by cases e), fun d hd => ?_, fun _ => ⟨w.heap.size, 0, rfl, ?_, fun i d hd => ?_⟩⟩, hbb, hth⟩
  · rcases List.mem_append.1 hd with h | h
    · rw [List.eq_of_mem_replicate h]; rfl
    · rw [List.mem_singleton.1 h]; exact hm
  · have h1 : w.heap.size < W1.heap.size := (Array.getElem?_eq_some_iff.1 hn).1
    have h2 := (below_setCells (B := W1.heap.size) (b := w.heap.size + W1.heap.size) (a := W1) (by omega) [] 0 W1 (Below.refl _ _)).size
    have h3 : w.heap.size < (W1.setCells w.heap.size (k * 32) (U m)).heap.size := by
      have hsame := World.rangeAt_setCells_same W1 w.heap.size (k * 32) (U m) (by rw [hul]; exact hth)
      have h0 := hsame 0 (U m)[0] (by rw [List.getElem?_eq_getElem (by omega)])
      exact World.block_lt_of_cell? _ ⟨w.heap.size, k * 32 + 0, none⟩ h0
    exact h3
  · rw [Nat.zero_add]
    by_cases hik : i < k
    · rw [List.getElem?_append_left (by simpa using hik), List.getElem?_replicate, if_pos hik] at hd
      obtain rfl := Option.some.inj hd
      refine World.rangeAt_setCells_apart (fun j v hv => ?_) _ _ _ (.inr (.inl (by rw [show (U z32).length = 32 from rfl]; omega)))
      have hj : j < 32 := (List.getElem?_eq_some_iff.1 hv).1
      rw [z_at j hj] at hv
      rw [hc (i * 32 + j) (by omega), ← hv]
    · have hi : i = k := by
        have := (List.getElem?_eq_some_iff.1 hd).1
        simp at this
        omega
      subst hi
      rw [List.getElem?_append_right (by simp), List.length_replicate, Nat.sub_self] at hd
      obtain rfl := Option.some.inj hd
      exact World.rangeAt_setCells_same W1 w.heap.size (i * 32) (U m) (by rw [hul]; exact hth)
theorem mgF_made (k : Nat) (m : List UInt8) : mgF (List.replicate k z32 ++ [m]) (k : Int) = m := by
  rw [mgF, if_pos (by simp; omega), Int.toNat_natCast, List.getD_eq_getElem?_getD, List.getElem?_append_right (by simp), List.length_replicate, Nat.sub_self]
  rfl
theorem fg_own (f : Nat) (s m : List UInt8) (n : Int) (k : Nat) (C P : List (List UInt8)) (hm : m ≠ z32) : fgF f s n (List.replicate k z32 ++ [m]) m (k : Int) C P = (0, 0) := by
  unfold fgF
  split
  · rw [mgF_made, if_pos ⟨hm, rfl⟩]
  · rfl
end Go.Proofs.YteicbdjennjcdaaDoor
