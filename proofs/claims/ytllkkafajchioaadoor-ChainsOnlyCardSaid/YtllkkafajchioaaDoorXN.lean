/- Chains: Digits, Earlier. -/
import Derived.Test.YtllkkafajchioaaDoorXM
namespace Go.Proofs.YtllkkafajchioaaDoor
open Go.RowKit

set_option maxRecDepth 100000 in
set_option maxHeartbeats 1600000 in
theorem Digits_all (m : List UInt8) (w : World) (hm : m.length = 32) :
    Calls Tryd.prog 14 #[.agg (U m).toArray] w fun e w' => ∃ g, e = .returned (.slice (some ⟨g, 0, none⟩) 19 19) ∧ RowN w' g 47 (dgl m) ∧ w.heap.size ≤ g ∧ Below w.heap.size w w' := by
  have HM := Lib.hid hm
  clear hm
  have hbx := box1 w (U m).toArray 23 _ rfl
  have r1 : RowB (w.alloc (.cells (U m).toArray 23)) w.heap.size 23 m := hbx.1
  have HB := Lib.hid hbx.2.1
  have HZ := Lib.hid hbx.2.2
  clear hbx
  go_enter Tryd.func14, Tryd.ntmps14
  go_wp2_with (refine load_B rfl (.tmp 1) rfl w.heap.size rfl 23 m r1 HM.out ?_)
  refine (digitsOf_all m _ HM.out).mono ?_
  rintro e w2 ⟨rfl, hb2⟩
  have hz2 := hb2.size
  rw [HZ.out] at hz2
  have HB2 := Lib.hid (HB.out.trans (hb2.mono (by rw [HZ.out]; omega)))
  have n2 : RowN (w2.alloc (.cells (NI (fln 19 [])).toArray 47)) w2.heap.size 47 (fln 19 []) := heap_alloc_new w2 _
  have n3 := Lib.hid (n2.setRow (dgl m))
  clear hb2 r1 HZ
  go_wp2_with (refine store_N rfl (.tmp 3) (.tmp 5) rfl w2.heap.size (fln 19 []) (dgl m) rfl rfl 47 n2 (dgl_len m) (by simp [fln]) ?_)
  go_ret
  exact ⟨w2.heap.size, rfl, n3.out, by omega, below_setRow (HB2.out.alloc (by omega) _) (by omega) _⟩

/-- the first place where the other digit is less -/
def earF (D E : List Nat) : Nat → Nat → Option Nat
  | 0, _ => none
  | f + 1, k => if E.getD k 0 < D.getD k 0 then some k else earF D E f (k + 1)
def erv (o : Option Nat) : Value := .tuple #[.int .i64 (o.getD 0 : Nat), .bool o.isSome]

theorem index_N (D : List Nat) (k d : Nat) (h : D[k]? = some d) (hk : k < 19) (_hD : D.length = 19) (w : World) : (Instr.index 47 (.agg (NI D).toArray) (.int .i64 k)).run Tryd.prog w = .ok (.int .i64 d) w := by
  have hg : (NI D)[k]? = some (.int .i64 (d : Int)) := by rw [NI_get, h]; rfl
  have hagg : (isAgg 3).run Tryd.prog w = .ok false w := Tryd.isAgg3 w
  have hsz : (sizeOf 3).run Tryd.prog w = .ok 1 w := Tryd.sizeOf3 w
  simp [Instr.index, asIntOf, run_underlying Tryd.underlying47, hsz, part, hg]
  intro hh
  omega
theorem earF_step (D E : List Nat) (k : Nat) (hk : k < 19) (hD : D.length = 19) (hE : E.length = 19) : ∃ d e, D[k]? = some d ∧ E[k]? = some e ∧ earF D E (19 - k) k = if e < d then some k else earF D E (19 - (k + 1)) (k + 1) := by
  refine ⟨D[k]'(by omega), E[k]'(by omega), List.getElem?_eq_getElem _, List.getElem?_eq_getElem _, ?_⟩
  rw [show 19 - k = (19 - (k + 1)) + 1 by omega, earF, List.getD_eq_getElem?_getD, List.getD_eq_getElem?_getD, List.getElem?_eq_getElem (by omega), List.getElem?_eq_getElem (by omega)]
  rfl

theorem Earlier_no (m q : List UInt8) (n cap : Nat) (A : Option Addr) (w : World) (hn : n ≠ 19) (_hm : n ≤ 9223372036854775807) :
    Calls Tryd.prog 11 #[.agg (U m).toArray, .slice A n cap, .agg (U q).toArray] w fun e w' => e = .returned (erv none) ∧ Below w.heap.size w w' := by
  have hne : ((n : Int) != 19) = true := by
    have : ¬ ((n : Int) = 19) := by omega
    simpa using this
  clear hn
  go_enter Tryd.func11, Tryd.ntmps11
  go_wp2_with fail
  go_ret2
  exact ⟨rfl, ((Below.refl _ _).alloc (Nat.le_refl _) _).alloc (by simp) _⟩

set_option maxRecDepth 100000 in
set_option maxHeartbeats 1600000 in
theorem Earlier_yes (m q : List UInt8) (cap : Nat) (A : Option Addr) (w : World) (hm : m.length = 32) (hq : q.length = 32) :
    Calls Tryd.prog 11 #[.agg (U m).toArray, .slice A 19 cap, .agg (U q).toArray] w fun e w' => e = .returned (erv (earF (dgl m) (dgl q) 19 0)) ∧ Below w.heap.size w w' := by
  have HM := Lib.hid hm
  have HQ := Lib.hid hq
  clear hm hq
  have hbx := box2 w (U m).toArray (U q).toArray 23 23 _ rfl
  have r1 : RowB ((w.alloc (.cells (U m).toArray 23)).alloc (.cells (U q).toArray 23)) (w.heap.size + 1) 23 q := hbx.2.1
  clear hbx
  go_enter Tryd.func11, Tryd.ntmps11
  go_wp2_with (refine load_B rfl (.tmp 5) rfl (w.heap.size + 1) rfl 23 q r1 HQ.out ?_)
  clear r1
  generalize hW1 : (w.alloc _).alloc _ = W1
  obtain ⟨h0, _, hb1, hz1⟩ := box2 w (U m).toArray (U q).toArray 23 23 W1 hW1
  clear hW1
  refine (digitsOf_all q W1 HQ.out).mono ?_
  rintro e w2 ⟨rfl, hb2⟩
  have hz2 := hb2.size
  have n2 : RowN (w2.alloc (.cells (NI (fln 19 [])).toArray 47)) w2.heap.size 47 (fln 19 []) := heap_alloc_new w2 _
  have hb3 : Below w2.heap.size w2 ((w2.alloc (.cells (NI (fln 19 [])).toArray 47)).setRow w2.heap.size (NI (dgl q)).toArray) := below_setRow ((Below.refl _ _).alloc (Nat.le_refl _) _) (Nat.le_refl _) _
  have n3 := Lib.hid (n2.setRow (dgl q))
  have r4 : RowB ((w2.alloc (.cells (NI (fln 19 [])).toArray 47)).setRow w2.heap.size (NI (dgl q)).toArray) w.heap.size 23 m := (hb3.block _ (by omega)).trans ((hb2.block _ (by omega)).trans h0)
  have HB3 := Lib.hid (hb1.trans ((hb2.trans (hb3.mono hz2)).mono (by omega)))
  clear h0 hb1 hb2 hb3
  go_wp2_with (first
    | (refine store_N rfl (.tmp 8) (.tmp 15) rfl w2.heap.size (fln 19 []) (dgl q) rfl rfl 47 n2 (dgl_len q) (by simp [fln]) ?_)
    | (refine load_B rfl (.tmp 3) rfl w.heap.size rfl 23 m r4 HM.out ?_))
  generalize hW4 : (w2.alloc _).setRow _ _ = W4
  have R4 := Lib.hid (show RowN W4 w2.heap.size 47 (dgl q) by rw [← hW4]; exact n3.out)
  have HB4 := Lib.hid (show Below w.heap.size w W4 by rw [← hW4]; exact HB3.out)
  have hlt4 : w2.heap.size < W4.heap.size := R4.out.lt
  clear hW4 n2 n3 r4 HB3
  refine (digitsOf_all m W4 HM.out).mono ?_
  rintro e w5 ⟨rfl, hb5⟩
  have hz5 := hb5.size
  have R5 := Lib.hid (R4.out.keep (hb5.block _ hlt4))
  have HB5 := Lib.hid (HB4.out.trans (hb5.mono HB4.out.size))
  have hD := dgl_len m
  have hE := dgl_len q
  have HD := Lib.hid hD
  have HE := Lib.hid hE
  clear hb5 R4 HB4 hD hE
  generalize hDD : dgl m = D at *
  generalize hEE : dgl q = E at *
  have HDD := Lib.hid hDD
  have HEE := Lib.hid hEE
  clear hDD hEE
  go_wp2_with fail
  go_loop [18] (fun x => ∃ k : Nat, k ≤ 19 ∧ x = .int .i64 k ∧ Hid (earF D E 19 0 = earF D E (19 - k) k)) (fun x => 19 - (intOf x).toNat)
  case atStart => exact ⟨0, by omega, rfl, Lib.hid rfl⟩
  case round =>
    obtain ⟨k, hk, rfl, HX⟩ := hrel
    by_cases hlt : k < 19
    · obtain ⟨d, e, hd, he, hs⟩ := earF_step D E k hlt HD.out HE.out
      have hix := index_N D k d hd hlt HD.out
      have hc := R5.out.cell he
      have HS := Lib.hid hs
      clear hd he hs
      by_cases hed : e < d
      · have HF := Lib.hid (show earF D E 19 0 = some k by rw [HX.out, HS.out, if_pos hed])
        go_wp2
        go_ret2
        exact ⟨by rw [HDD.out, HEE.out, HF.out]; rfl, HB5.out⟩
      · have HF := Lib.hid (show earF D E 19 0 = earF D E (19 - (k + 1)) (k + 1) by rw [HX.out, HS.out, if_neg hed])
        go_wp2
        go_round
        case rel => exact ⟨k + 1, by omega, rfl, HF⟩
        case measure => simp [intOf]; omega
    · obtain rfl : k = 19 := by omega
      have HF := Lib.hid (show earF D E 19 0 = none by rw [HX.out]; rfl)
      go_wp2
      go_ret2
      exact ⟨by rw [HDD.out, HEE.out, HF.out]; rfl, HB5.out⟩
end Go.Proofs.YtllkkafajchioaaDoor
