/- Chains: ChainsApart's walk. -/
import Derived.Test.YtllkkafajchioaaDoorXZ
import Derived.Test.YtllkkafajchioaaDoorYM
import Derived.Deep.CutRange
import Derived.Deep.DeepCutAuto
namespace Go.Proofs.YtllkkafajchioaaDoor
open Go.RowKit

section
variable {md : Region.Mode} {ops : Array Oper} {Q : Exit → Act → World → Prop} {S : World → Prop} {fuel : Nat} {listed : Array Bool} {a : Act} {w : World}
/-- a guarded operation that is passed over -/
theorem tkw_skip (i n : Nat) {oi : Oper} (hi : ops[i]? = some oi)
    (hs : Region.noSelect ops = true) (hf : Region.free md ops listed i = true) (hr : (Region.ready md ops listed).contains i = true) (hQ : ∀ c a v w, Q (.panic c) (a.put (some n) v) w → Q (.panic c) a w)
    (hw : Region.wanted oi (yielded ops a.tmps) = false) (hd : oi.dst = some n) (h0 : S w)
    (h : wpAnyH Tryd.prog md ops Q S fuel (listed.setIfInBounds i true) (a.put (some n) undef) w) : wpAnyH Tryd.prog md ops Q S (fuel + 1) listed a w :=
  wpAnyH_take (i := i) (oi := oi) (v := undef) hi hs hf hr (fun c a w hq => hQ c a _ w (by rw [hd] at hq; exact hq)) (.inr ⟨hw, rfl⟩) h0 (by rw [hd]; exact h)
end
section
variable {o : Oper} {a : Act} {w : World}
theorem ev_pick_f (c x y : Operand) (v : Value) (ho : o.op = .pick c x y) (hc : a.eval c = .bool false) (hy : a.eval y = v) :
    (execOp a.eval o).run Tryd.prog w = .ok (.value v) w := by
  unfold execOp
  simp only [ho, hc, hy]
  go_simp
theorem ev_mul (x y : Operand) (p q : Int) (ho : o.op = .binOp .mul 3 x y 3) (hx : a.eval x = .int .i64 p) (hy : a.eval y = .int .i64 q) (h1 : 0 ≤ p * q) (h2 : p * q ≤ 9223372036854775807) :
    (execOp a.eval o).run Tryd.prog w = .ok (.value (.int .i64 (p * q))) w := by
  have hw : IntKind.i64.wrap (p * q) = p * q := IntWalk.i64_in _ (by omega)
  unfold execOp
  simp only [ho, hx, hy]
  go_simp
theorem ev_add (x y : Operand) (p q : Int) (ho : o.op = .binOp .add 3 x y 3) (hx : a.eval x = .int .i64 p) (hy : a.eval y = .int .i64 q) (h1 : 0 ≤ p + q) (h2 : p + q ≤ 9223372036854775807) :
    (execOp a.eval o).run Tryd.prog w = .ok (.value (.int .i64 (p + q))) w := by
  have hw : IntKind.i64.wrap (p + q) = p + q := IntWalk.i64_in _ (by omega)
  unfold execOp
  simp only [ho, hx, hy]
  go_simp
theorem ev_neq_int (x y : Operand) (p q : Int) (b : Bool) (ho : o.op = .binOp .neq 3 x y 3) (hx : a.eval x = .int .i64 p) (hy : a.eval y = .int .i64 q) (hb : b = !decide (p = q)) :
    (execOp a.eval o).run Tryd.prog w = .ok (.value (.bool b)) w := by
  subst hb
  unfold execOp
  simp only [ho, hx, hy]
  go_simp
  by_cases h : p = q <;> simp [h]
theorem ev_lss_int (x y : Operand) (p q : Int) (b : Bool) (ho : o.op = .binOp .lss 3 x y 3) (hx : a.eval x = .int .i64 p) (hy : a.eval y = .int .i64 q) (hb : decide (p < q) = b) :
    (execOp a.eval o).run Tryd.prog w = .ok (.value (.bool b)) w := by
  subst hb
  unfold execOp
  simp only [ho, hx, hy]
  go_simp
theorem ev_eql_u8 (x y : Operand) (p q : Int) (b : Bool) (ho : o.op = .binOp .eql 5 x y 5) (hx : a.eval x = .int .u8 p) (hy : a.eval y = .int .u8 q) (hb : decide (p = q) = b) :
    (execOp a.eval o).run Tryd.prog w = .ok (.value (.bool b)) w := by
  subst hb
  unfold execOp
  simp only [ho, hx, hy]
  go_simp
  first | rfl | (by_cases h : p = q <;> simp [h])
theorem ev_neq_bool (x y : Operand) (p q b : Bool) (ho : o.op = .binOp .neq 4 x y 4) (hx : a.eval x = .bool p) (hy : a.eval y = .bool q) (hb : (p != q) = b) :
    (execOp a.eval o).run Tryd.prog w = .ok (.value (.bool b)) w := by
  subst hb
  unfold execOp
  simp only [ho, hx, hy]
  go_simp
  cases p <;> cases q <;> rfl
theorem ev_load_u8 (x : Operand) (b ofs : Nat) (n : Int) (ho : o.op = .load 5 x) (hx : a.eval x = .pointer (some ⟨b, ofs, none⟩)) (hc : w.cell? ⟨b, ofs, none⟩ = some (.int .u8 n)) :
    (execOp a.eval o).run Tryd.prog w = .ok (.value (.int .u8 n)) w := by
  unfold execOp
  simp only [ho, hx]
  go_simp
theorem ev_idx_dig (x : Operand) (b k : Nat) (ho : o.op = .indexAddr 23 x (.const (.int .i64 k))) (hx : a.eval x = .pointer (some ⟨b, 0, none⟩)) (hk : k < 32) :
    (execOp a.eval o).run Tryd.prog w = .ok (.value (.pointer (some ⟨b, k, none⟩))) w := by
  have b1 : (k : Int) < 32 := by omega
  unfold execOp
  simp only [ho, hx]
  go_simp
end
def earV (n : Nat) (m q : List UInt8) : Option Nat := if n = 19 then earF (dgl m) (dgl q) 19 0 else none
theorem earlier_v (m q : List UInt8) (n cap : Nat) (A : Option Addr) (ww : World) (hm : m.length = 32) (hq : q.length = 32) (hn : n ≤ 40) :
    Calls Tryd.prog 11 #[.agg (U m).toArray, .slice A n cap, .agg (U q).toArray] ww fun e w' => e = .returned (erv (earV n m q)) ∧ Below ww.heap.size ww w' := by
  unfold earV
  by_cases h : n = 19
  · subst h
    rw [if_pos rfl]
    exact Earlier_yes m q cap A ww hm hq
  · rw [if_neg h]
    exact Earlier_no m q n cap A ww h (by omega)
theorem take_dec (D E : List Nat) (k d e : Nat) (hd : D[k]? = some d) (he : E[k]? = some e) : decide (D.take (k + 1) = E.take (k + 1)) = (decide (D.take k = E.take k) && decide (d = e)) := by
  rw [take_one D k d hd, take_one E k e he, ← Bool.decide_and]
  apply decide_eq_decide.2
  constructor
  · intro h
    have hl := congrArg List.length h
    have h1 := List.append_inj' h rfl
    exact ⟨h1.1, by simpa using h1.2⟩
  · rintro ⟨h1, rfl⟩
    rw [h1]

set_option maxRecDepth 100000 in
set_option maxHeartbeats 6400000 in
theorem apart_all (a b : List UInt8) (L : List (List UInt8)) (A : Option Addr) (cap : Nat) (w : World) (ha : a.length = 32) (hb : b.length = 32) (hl : DL w (· < w.heap.size) L A cap) (hk : KR w Kt) :
    Calls Tryd.prog 6 #[.agg (U a).toArray, .agg (U b).toArray, .slice A L.length cap] w fun e w' => e = .returned (.bool true) ∧ Below w.heap.size w w' := by
  have HA := Lib.hid ha
  have HB := Lib.hid hb
  have HK := Lib.hid hk
  have hlt0 := hk.lt
  have hcap := hl.1
  have hcm : cap ≤ 9223372036854775807 := hl.2.1
  clear ha hb hk hl
  generalize L.length = n at *
  by_cases h40 : 40 < n
  · go_enter Tryd.func6, Tryd.ntmps6
    go_wp2_with fail
    generalize hW1 : (w.alloc _).alloc _ = W1
    obtain ⟨_, _, hb1, hz1⟩ := box2 w (U a).toArray (U b).toArray 23 23 W1 hW1
    clear hW1
    refine (sane_all W1 (HK.out.keep (hb1.block 0 hlt0))).mono ?_
    rintro e w1 ⟨rfl, hb⟩
    have HB := Lib.hid (hb1.trans (hb.mono (by omega)))
    clear hb hb1 hz1
    go_wp2_with fail
    go_ret
    exact ⟨rfl, HB.out⟩
  go_enter Tryd.func6, Tryd.ntmps6
  go_wp2_with fail
  generalize hW1 : (w.alloc _).alloc _ = W1
  obtain ⟨h0, h1, hb1, hz1⟩ := box2 w (U a).toArray (U b).toArray 23 23 W1 hW1
  clear hW1
  have KE := Lib.hid (show ∀ ww, Below W1.heap.size W1 ww → RowB ww w.heap.size 23 a ∧ RowB ww (w.heap.size + 1) 23 b ∧ KR ww Kt ∧ Below w.heap.size w ww from fun ww h =>
    ⟨(h.block _ (by omega)).trans h0, (h.block _ (by omega)).trans h1, HK.out.keep ((h.block 0 (by omega)).trans (hb1.block 0 hlt0)), hb1.trans (h.mono (by omega))⟩)
  have STEP := Lib.hid (show ∀ ww w', Below W1.heap.size W1 ww → Below ww.heap.size ww w' → Below W1.heap.size W1 w' from fun ww w' h1 h2 => h1.trans (h2.mono h1.size))
  refine (sane_all W1 (HK.out.keep (hb1.block 0 hlt0))).mono ?_
  rintro e w1 ⟨rfl, hb⟩
  have HB1 := Lib.hid hb
  clear hb hb1 hz1 h0 h1
  go_wp2_with fail
  have h0 : Below W1.heap.size W1 w1.drew := HB1.out.drew
  refine wp_region_noPanic ?_
  refine wp_region_held_drew (S := fun ww => Below W1.heap.size W1 ww) (by kernel_rfl) h0 (fun _ => ?_)
  refine tk_load 0 22 (.tmp 3) w.heap.size (0) a rfl (by kernel_rfl) (by kernel_rfl) (by kernel_rfl) (fun _ _ _ _ h => h) rfl rfl rfl rfl (fun ww h => (KE.out ww h).1.range) HA.out h0 ?_
  simp only [Act.put, List.setIfInBounds_toArray, List.set_cons_zero, List.set_cons_succ]
  refine tk_load 2 24 (.tmp 4) (w.heap.size + 1) (0) b rfl (by kernel_rfl) (by kernel_rfl) (by kernel_rfl) (fun _ _ _ _ h => h) rfl rfl rfl rfl (fun ww h => (KE.out ww h).2.1.range) HB.out h0 ?_
  simp only [Act.put, List.setIfInBounds_toArray, List.set_cons_zero, List.set_cons_succ]
  generalize w1.drew = V0 at *
  refine lone 1 (by kernel_rfl) rfl (fun K hK => to_call 14 23 _ _ #[.agg (U a).toArray] _ rfl rfl rfl rfl enters_Digits (Digits_all a V0 HA.out) (fun e w2 hq => ?_))
  obtain ⟨g1, k1, k2, k3, k4⟩ := hq
  refine ⟨_, k1, ?_⟩
  have h2 := STEP.out _ _ h0 k4
  refine hK _ _ h2 ?_
  simp only [Act.put, List.setIfInBounds_toArray, List.set_cons_zero, List.set_cons_succ]
  clear hK
  refine lone 3 (by kernel_rfl) rfl (fun K hK => to_call 14 25 _ _ #[.agg (U b).toArray] _ rfl rfl rfl rfl enters_Digits (Digits_all b w2 HB.out) (fun e w3 hq => ?_))
  obtain ⟨g2, j1, j2, j3, j4⟩ := hq
  refine ⟨_, j1, ?_⟩
  have h3 := STEP.out _ _ h2 j4
  refine hK _ _ h3 ?_
  simp only [Act.put, List.setIfInBounds_toArray, List.set_cons_zero, List.set_cons_succ]
  clear hK
  refine tk_assign 4 7 (.tmp 23) (.slice (some ⟨g1, 0, none⟩) 19 19) rfl (by kernel_rfl) (by kernel_rfl) (by kernel_rfl) (fun _ _ _ _ h => h) rfl rfl rfl rfl h3 ?_
  simp only [Act.put, List.setIfInBounds_toArray, List.set_cons_zero, List.set_cons_succ]
  refine tk_assign 5 8 (.tmp 25) (.slice (some ⟨g2, 0, none⟩) 19 19) rfl (by kernel_rfl) (by kernel_rfl) (by kernel_rfl) (fun _ _ _ _ h => h) rfl rfl rfl rfl h3 ?_
  simp only [Act.put, List.setIfInBounds_toArray, List.set_cons_zero, List.set_cons_succ]
  refine wpAnyH_done (by kernel_rfl) (NoPanic.normal ?_) _
  have K3 := Lib.hid (show ∀ ww, Below w3.heap.size w3 ww → RowN ww g1 47 (dgl a) ∧ RowN ww g2 47 (dgl b) ∧ RowB ww w.heap.size 23 a ∧ RowB ww (w.heap.size + 1) 23 b ∧ Below w.heap.size w ww from fun ww h => by
    have m1 := KE.out ww (STEP.out _ _ h3 h)
    have m2 := j4.size
    exact ⟨(k2.keep (j4.block _ k2.lt)).keep (h.block _ (by have := k2.lt; omega)), j2.keep (h.block _ j2.lt), m1.1, m1.2.1, m1.2.2.2⟩)
  clear h3 h2 h0 k2 k3 k4 j2 j3 j4
  have DA := Lib.hid (dgl_len a)
  have DB := Lib.hid (dgl_len b)
  have D3 := Lib.hid (dgl_le a)
  have KS3 := Lib.hid (K3.out w3 (Below.refl _ _))
  go_wp2_with fail
  go_loop [9, 10, 36] (fun sv bv x => ∃ k : Nat, k ≤ 19 ∧ sv = .int .i64 (sm a (min k 16)) ∧ bv = .bool (decide ((dgl a).take k = (dgl b).take k)) ∧ x = .int .i64 k) (fun _ _ x => 19 - (intOf x).toNat)
  case atStart => exact ⟨0, by omega, rfl, by simp, rfl⟩
  case round =>
    obtain ⟨k, hk, rfl, rfl, rfl⟩ := hrel
    by_cases hlt : k < 19
    · obtain ⟨d, hd⟩ : ∃ d, (dgl a)[k]? = some d := ⟨_, List.getElem?_eq_getElem (by rw [DA.out]; exact hlt)⟩
      obtain ⟨e, he⟩ : ∃ e, (dgl b)[k]? = some e := ⟨_, List.getElem?_eq_getElem (by rw [DB.out]; exact hlt)⟩
      have hd3 := D3.out d (List.mem_of_getElem? hd)
      have c1 := KS3.out.1.cell hd
      have c2 := KS3.out.2.1.cell he
      have HT := Lib.hid (take_dec (dgl a) (dgl b) k d e hd he)
      have hsm := sm_le a (min k 16)
      have hmin : min k 16 ≤ 16 := by omega
      have bk : (k : Int) < 19 := by omega
      have q1 : decide ((d : Int) < 0) = false := decide_eq_false (by omega)
      have q2 : decide ((3 : Int) < d) = false := decide_eq_false (by omega)
      have HS1 := Lib.hid (show k < 16 → sm a (min (k + 1) 16) = sm a (min k 16) + (3 - d) from fun h => by
        rw [show min (k + 1) 16 = k + 1 by omega, show min k 16 = k by omega, sm]
        have := dgl_d16 a k h
        rw [List.getD_eq_getElem?_getD, hd] at this
        simp at this
        rw [this])
      have HS2 := Lib.hid (show ¬ k < 16 → sm a (min (k + 1) 16) = sm a (min k 16) from fun h => by rw [show min (k + 1) 16 = min k 16 by omega])
      clear hd he
      generalize sm a (min k 16) = SS at *
      by_cases hT : (dgl a).take k = (dgl b).take k
      · have hb1 : decide ((dgl a).take k = (dgl b).take k) = true := decide_eq_true hT
        rw [hb1] at HT ⊢
        clear hb1 hT
        by_cases hde : d = e
        · have q3 : ((d : Int) == e) = true := by rw [hde]; simp
          have HN := Lib.hid (show decide ((dgl a).take (k + 1) = (dgl b).take (k + 1)) = true by rw [HT.out, decide_eq_true hde]; rfl)
          clear hde
          by_cases h16 : k < 16
          · have HSS := Lib.hid (HS1.out h16)
            go_wp2
            go_round
            case rel => exact ⟨k + 1, by omega, by rw [HSS.out]; congr 1; omega, by rw [HN.out], rfl⟩
            case measure => simp [intOf]; omega
          · have HSS := Lib.hid (HS2.out h16)
            go_wp2
            go_round
            case rel => exact ⟨k + 1, by omega, by rw [HSS.out], by rw [HN.out], rfl⟩
            case measure => simp [intOf]; omega
        · have q3 : ((d : Int) == e) = false := by
            have : ¬ ((d : Int) = e) := by omega
            simpa using this
          have HN := Lib.hid (show decide ((dgl a).take (k + 1) = (dgl b).take (k + 1)) = false by rw [HT.out, decide_eq_false hde]; rfl)
          clear hde
          by_cases h16 : k < 16
          · have HSS := Lib.hid (HS1.out h16)
            go_wp2
            go_round
            case rel => exact ⟨k + 1, by omega, by rw [HSS.out]; congr 1; omega, by rw [HN.out], rfl⟩
            case measure => simp [intOf]; omega
          · have HSS := Lib.hid (HS2.out h16)
            go_wp2
            go_round
            case rel => exact ⟨k + 1, by omega, by rw [HSS.out], by rw [HN.out], rfl⟩
            case measure => simp [intOf]; omega
      · have hb1 : decide ((dgl a).take k = (dgl b).take k) = false := decide_eq_false hT
        rw [hb1] at HT ⊢
        have HN := Lib.hid (show decide ((dgl a).take (k + 1) = (dgl b).take (k + 1)) = false by rw [HT.out]; rfl)
        clear hb1 hT
        by_cases h16 : k < 16
        · have HSS := Lib.hid (HS1.out h16)
          go_wp2
          go_round
          case rel => exact ⟨k + 1, by omega, by rw [HSS.out]; congr 1; omega, by rw [HN.out], rfl⟩
          case measure => simp [intOf]; omega
        · have HSS := Lib.hid (HS2.out h16)
          go_wp2
          go_round
          case rel => exact ⟨k + 1, by omega, by rw [HSS.out], by rw [HN.out], rfl⟩
          case measure => simp [intOf]; omega
    · obtain rfl : k = 19 := by omega
      have HSB := Lib.hid (show decide ((dgl a).take 19 = (dgl b).take 19) = decide (dgl a = dgl b) by rw [List.take_of_length_le (by rw [DA.out]; omega), List.take_of_length_le (by rw [DB.out]; omega)])
      rw [HSB.out, show min 19 16 = 16 from rfl]
      have hsm := sm_le a 16
      have g16 : (dgl a)[16]? = some (sm a 16 / 16) := by
        have := dgl_t3 a 0 (by omega)
        rw [List.getD_eq_getElem?_getD, List.getElem?_eq_getElem (by rw [DA.out]; omega)] at this
        rw [List.getElem?_eq_getElem (by rw [DA.out]; omega)]
        simp at this
        rw [this]; congr 1; omega
      have g17 : (dgl a)[17]? = some (sm a 16 / 4 % 4) := by
        have := dgl_t3 a 1 (by omega)
        rw [List.getD_eq_getElem?_getD, List.getElem?_eq_getElem (by rw [DA.out]; omega)] at this
        rw [List.getElem?_eq_getElem (by rw [DA.out]; omega)]
        simp at this
        rw [this]
      have g18 : (dgl a)[18]? = some (sm a 16 % 4) := by
        have := dgl_t3 a 2 (by omega)
        rw [List.getD_eq_getElem?_getD, List.getElem?_eq_getElem (by rw [DA.out]; omega)] at this
        rw [List.getElem?_eq_getElem (by rw [DA.out]; omega)]
        simp at this
        rw [this]
      have S16 := Lib.hid (show ∀ ww, Below w3.heap.size w3 ww → ww.cell? ⟨g1, 16, none⟩ = some (.int .i64 ((sm a 16 / 16 : Nat) : Int)) from fun ww h => (K3.out ww h).1.cell g16)
      have S17 := Lib.hid (show ∀ ww, Below w3.heap.size w3 ww → ww.cell? ⟨g1, 17, none⟩ = some (.int .i64 ((sm a 16 / 4 % 4 : Nat) : Int)) from fun ww h => (K3.out ww h).1.cell g17)
      have S18 := Lib.hid (show ∀ ww, Below w3.heap.size w3 ww → ww.cell? ⟨g1, 18, none⟩ = some (.int .i64 ((sm a 16 % 4 : Nat) : Int)) from fun ww h => (K3.out ww h).1.cell g18)
      have CA := Lib.hid (show ∀ i, i < 4 → ∀ ww, Below w3.heap.size w3 ww → ww.cell? ⟨w.heap.size, i, none⟩ = some (.int .u8 ((by_ a i).toNat : Int)) from fun i hi ww h => (K3.out ww h).2.2.1.cell (by_get a i (by rw [HA.out]; omega)))
      have CB := Lib.hid (show ∀ i, i < 4 → ∀ ww, Below w3.heap.size w3 ww → ww.cell? ⟨w.heap.size + 1, i, none⟩ = some (.int .u8 ((by_ b i).toNat : Int)) from fun i hi ww h => (K3.out ww h).2.2.2.1.cell (by_get b i (by rw [HB.out]; omega)))
      have DBY := Lib.hid (dgl_bytes a b)
      have EQ := Lib.hid (show ∀ x y : UInt8, decide ((x.toNat : Int) = y.toNat) = decide (x = y) from fun x y => decide_eq_decide.2 ⟨fun h => UInt8.toNat_inj.1 (by omega), fun h => by rw [h]⟩)
      clear g16 g17 g18
      generalize hSS : sm a 16 = SS at *
      generalize hdd : decide (dgl a = dgl b) = sb at *
      have HDD := Lib.hid hdd
      clear hSS hdd
      go_upto_region 18 with fail
      go_cut [107] from 63 to 107 (fun v wx => v = .bool false ∧ Below w3.heap.size w3 wx)
      case first =>
        go_wp2_with fail
        refine wp_region_noPanic ?_
        have h0 : Below w3.heap.size w3 w3.drew := (Below.refl _ _).drew
        refine wp_region_held_drew (S := fun ww => Below w3.heap.size w3 ww) (by kernel_rfl) h0 (fun _ => ?_)
        generalize w3.drew = V3 at *
        refine tk_move 0 63 (.tmp 9) (.int .i64 SS) rfl (by kernel_rfl) (by kernel_rfl) (by kernel_rfl) (fun _ _ _ _ h => h) rfl rfl rfl rfl h0 ?_
        simp only [Act.put, List.setIfInBounds_toArray, List.set_cons_zero, List.set_cons_succ]
        refine tk_move 1 64 (.tmp 7) (.slice (some ⟨g1, 0, none⟩) 19 19) rfl (by kernel_rfl) (by kernel_rfl) (by kernel_rfl) (fun _ _ _ _ h => h) rfl rfl rfl rfl h0 ?_
        simp only [Act.put, List.setIfInBounds_toArray, List.set_cons_zero, List.set_cons_succ]
        refine tk_val 2 65 (.pointer (some ⟨g1, 0 + 16, none⟩)) rfl (by kernel_rfl) (by kernel_rfl) (by kernel_rfl) (fun _ _ _ _ h => h) rfl rfl (fun _ _ => ev_index_int (.tmp 64) (.const (.int .i64 16)) g1 0 19 19 16 rfl rfl rfl (by omega)) h0 ?_
        simp only [Act.put, List.setIfInBounds_toArray, List.set_cons_zero, List.set_cons_succ]
        refine tk_val 3 66 (.int .i64 ((SS / 16 : Nat) : Int)) rfl (by kernel_rfl) (by kernel_rfl) (by kernel_rfl) (fun _ _ _ _ h => h) rfl rfl (fun ww h => ev_load_int (.tmp 65) g1 16 _ rfl rfl (S16.out ww h)) h0 ?_
        simp only [Act.put, List.setIfInBounds_toArray, List.set_cons_zero, List.set_cons_succ]
        refine tk_val 4 67 (.int .i64 (16 * ((SS / 16 : Nat) : Int))) rfl (by kernel_rfl) (by kernel_rfl) (by kernel_rfl) (fun _ _ _ _ h => h) rfl rfl (fun _ _ => ev_mul (.const (.int .i64 16)) (.tmp 66) 16 _ rfl rfl rfl (by omega) (by omega)) h0 ?_
        simp only [Act.put, List.setIfInBounds_toArray, List.set_cons_zero, List.set_cons_succ]
        refine tk_move 5 68 (.tmp 7) (.slice (some ⟨g1, 0, none⟩) 19 19) rfl (by kernel_rfl) (by kernel_rfl) (by kernel_rfl) (fun _ _ _ _ h => h) rfl rfl rfl rfl h0 ?_
        simp only [Act.put, List.setIfInBounds_toArray, List.set_cons_zero, List.set_cons_succ]
        refine tk_val 6 69 (.pointer (some ⟨g1, 0 + 17, none⟩)) rfl (by kernel_rfl) (by kernel_rfl) (by kernel_rfl) (fun _ _ _ _ h => h) rfl rfl (fun _ _ => ev_index_int (.tmp 68) (.const (.int .i64 17)) g1 0 19 19 17 rfl rfl rfl (by omega)) h0 ?_
        simp only [Act.put, List.setIfInBounds_toArray, List.set_cons_zero, List.set_cons_succ]
        refine tk_val 7 70 (.int .i64 ((SS / 4 % 4 : Nat) : Int)) rfl (by kernel_rfl) (by kernel_rfl) (by kernel_rfl) (fun _ _ _ _ h => h) rfl rfl (fun ww h => ev_load_int (.tmp 69) g1 17 _ rfl rfl (S17.out ww h)) h0 ?_
        simp only [Act.put, List.setIfInBounds_toArray, List.set_cons_zero, List.set_cons_succ]
        refine tk_val 8 71 (.int .i64 (4 * ((SS / 4 % 4 : Nat) : Int))) rfl (by kernel_rfl) (by kernel_rfl) (by kernel_rfl) (fun _ _ _ _ h => h) rfl rfl (fun _ _ => ev_mul (.const (.int .i64 4)) (.tmp 70) 4 _ rfl rfl rfl (by omega) (by omega)) h0 ?_
        simp only [Act.put, List.setIfInBounds_toArray, List.set_cons_zero, List.set_cons_succ]
        refine tk_val 9 72 (.int .i64 (16 * ((SS / 16 : Nat) : Int) + 4 * ((SS / 4 % 4 : Nat) : Int))) rfl (by kernel_rfl) (by kernel_rfl) (by kernel_rfl) (fun _ _ _ _ h => h) rfl rfl (fun _ _ => ev_add (.tmp 67) (.tmp 71) _ _ rfl rfl rfl (by omega) (by omega)) h0 ?_
        simp only [Act.put, List.setIfInBounds_toArray, List.set_cons_zero, List.set_cons_succ]
        refine tk_move 10 73 (.tmp 7) (.slice (some ⟨g1, 0, none⟩) 19 19) rfl (by kernel_rfl) (by kernel_rfl) (by kernel_rfl) (fun _ _ _ _ h => h) rfl rfl rfl rfl h0 ?_
        simp only [Act.put, List.setIfInBounds_toArray, List.set_cons_zero, List.set_cons_succ]
        refine tk_val 11 74 (.pointer (some ⟨g1, 0 + 18, none⟩)) rfl (by kernel_rfl) (by kernel_rfl) (by kernel_rfl) (fun _ _ _ _ h => h) rfl rfl (fun _ _ => ev_index_int (.tmp 73) (.const (.int .i64 18)) g1 0 19 19 18 rfl rfl rfl (by omega)) h0 ?_
        simp only [Act.put, List.setIfInBounds_toArray, List.set_cons_zero, List.set_cons_succ]
        refine tk_val 12 75 (.int .i64 ((SS % 4 : Nat) : Int)) rfl (by kernel_rfl) (by kernel_rfl) (by kernel_rfl) (fun _ _ _ _ h => h) rfl rfl (fun ww h => ev_load_int (.tmp 74) g1 18 _ rfl rfl (S18.out ww h)) h0 ?_
        simp only [Act.put, List.setIfInBounds_toArray, List.set_cons_zero, List.set_cons_succ]
        refine tk_val 13 76 (.int .i64 (16 * ((SS / 16 : Nat) : Int) + 4 * ((SS / 4 % 4 : Nat) : Int) + ((SS % 4 : Nat) : Int))) rfl (by kernel_rfl) (by kernel_rfl) (by kernel_rfl) (fun _ _ _ _ h => h) rfl rfl (fun _ _ => ev_add (.tmp 72) (.tmp 75) _ _ rfl rfl rfl (by omega) (by omega)) h0 ?_
        simp only [Act.put, List.setIfInBounds_toArray, List.set_cons_zero, List.set_cons_succ]
        refine tk_val 14 77 (.bool false) rfl (by kernel_rfl) (by kernel_rfl) (by kernel_rfl) (fun _ _ _ _ h => h) rfl rfl (fun _ _ => ev_neq_int (.tmp 63) (.tmp 76) _ _ false rfl rfl rfl (by rw [decide_eq_true (by omega)]; rfl)) h0 ?_
        simp only [Act.put, List.setIfInBounds_toArray, List.set_cons_zero, List.set_cons_succ]
        refine tk_move 15 78 (.tmp 77) (.bool false) rfl (by kernel_rfl) (by kernel_rfl) (by kernel_rfl) (fun _ _ _ _ h => h) rfl rfl rfl rfl h0 ?_
        simp only [Act.put, List.setIfInBounds_toArray, List.set_cons_zero, List.set_cons_succ]
        by_cases e0 : by_ a 0 = by_ b 0
        · have q0 : decide (by_ a 0 = by_ b 0) = true := decide_eq_true e0
          by_cases e1 : by_ a 1 = by_ b 1
          · have q1 : decide (by_ a 1 = by_ b 1) = true := decide_eq_true e1
            by_cases e2 : by_ a 2 = by_ b 2
            · have q2 : decide (by_ a 2 = by_ b 2) = true := decide_eq_true e2
              have hs3 : decide (by_ a 3 = by_ b 3) = sb := by rw [← HDD.out]; exact decide_eq_decide.2 ⟨fun h => DBY.out.2 ⟨e0, e1, e2, h⟩, fun h => (DBY.out.1 h).2.2.2⟩
              have q3 := hs3
              clear hs3
              refine tkw_val 16 79 (.bool sb) rfl (by kernel_rfl) (by kernel_rfl) (by kernel_rfl) (fun _ _ _ _ h => h) (by kernel_rfl) rfl (fun _ _ => ev_move (.tmp 10) (.bool sb) rfl rfl) h0 ?_
              simp only [Act.put, List.setIfInBounds_toArray, List.set_cons_zero, List.set_cons_succ]
              refine tkw_val 17 80 (.pointer (some ⟨w.heap.size, 0, none⟩)) rfl (by kernel_rfl) (by kernel_rfl) (by kernel_rfl) (fun _ _ _ _ h => h) (by kernel_rfl) rfl (fun _ _ => ev_idx_dig (.tmp 3) w.heap.size 0 rfl rfl (by omega)) h0 ?_
              simp only [Act.put, List.setIfInBounds_toArray, List.set_cons_zero, List.set_cons_succ]
              refine tkw_val 18 81 (.int .u8 ((by_ a 0).toNat : Int)) rfl (by kernel_rfl) (by kernel_rfl) (by kernel_rfl) (fun _ _ _ _ h => h) (by kernel_rfl) rfl (fun ww h => ev_load_u8 (.tmp 80) w.heap.size 0 _ rfl rfl (CA.out 0 (by omega) ww h)) h0 ?_
              simp only [Act.put, List.setIfInBounds_toArray, List.set_cons_zero, List.set_cons_succ]
              refine tkw_val 19 82 (.pointer (some ⟨w.heap.size + 1, 0, none⟩)) rfl (by kernel_rfl) (by kernel_rfl) (by kernel_rfl) (fun _ _ _ _ h => h) (by kernel_rfl) rfl (fun _ _ => ev_idx_dig (.tmp 4) (w.heap.size + 1) 0 rfl rfl (by omega)) h0 ?_
              simp only [Act.put, List.setIfInBounds_toArray, List.set_cons_zero, List.set_cons_succ]
              refine tkw_val 20 83 (.int .u8 ((by_ b 0).toNat : Int)) rfl (by kernel_rfl) (by kernel_rfl) (by kernel_rfl) (fun _ _ _ _ h => h) (by kernel_rfl) rfl (fun ww h => ev_load_u8 (.tmp 82) (w.heap.size + 1) 0 _ rfl rfl (CB.out 0 (by omega) ww h)) h0 ?_
              simp only [Act.put, List.setIfInBounds_toArray, List.set_cons_zero, List.set_cons_succ]
              refine tkw_val 21 84 (.bool true) rfl (by kernel_rfl) (by kernel_rfl) (by kernel_rfl) (fun _ _ _ _ h => h) (by kernel_rfl) rfl (fun _ _ => ev_eql_u8 (.tmp 81) (.tmp 83) _ _ true rfl rfl rfl (by rw [EQ.out]; exact q0)) h0 ?_
              simp only [Act.put, List.setIfInBounds_toArray, List.set_cons_zero, List.set_cons_succ]
              refine tkw_val 22 85 (.bool true) rfl (by kernel_rfl) (by kernel_rfl) (by kernel_rfl) (fun _ _ _ _ h => h) (by kernel_rfl) rfl (fun _ _ => ev_move (.tmp 84) (.bool true) rfl rfl) h0 ?_
              simp only [Act.put, List.setIfInBounds_toArray, List.set_cons_zero, List.set_cons_succ]
              refine tkw_val 23 86 (.pointer (some ⟨w.heap.size, 1, none⟩)) rfl (by kernel_rfl) (by kernel_rfl) (by kernel_rfl) (fun _ _ _ _ h => h) (by kernel_rfl) rfl (fun _ _ => ev_idx_dig (.tmp 3) w.heap.size 1 rfl rfl (by omega)) h0 ?_
              simp only [Act.put, List.setIfInBounds_toArray, List.set_cons_zero, List.set_cons_succ]
              refine tkw_val 24 87 (.int .u8 ((by_ a 1).toNat : Int)) rfl (by kernel_rfl) (by kernel_rfl) (by kernel_rfl) (fun _ _ _ _ h => h) (by kernel_rfl) rfl (fun ww h => ev_load_u8 (.tmp 86) w.heap.size 1 _ rfl rfl (CA.out 1 (by omega) ww h)) h0 ?_
              simp only [Act.put, List.setIfInBounds_toArray, List.set_cons_zero, List.set_cons_succ]
              refine tkw_val 25 88 (.pointer (some ⟨w.heap.size + 1, 1, none⟩)) rfl (by kernel_rfl) (by kernel_rfl) (by kernel_rfl) (fun _ _ _ _ h => h) (by kernel_rfl) rfl (fun _ _ => ev_idx_dig (.tmp 4) (w.heap.size + 1) 1 rfl rfl (by omega)) h0 ?_
              simp only [Act.put, List.setIfInBounds_toArray, List.set_cons_zero, List.set_cons_succ]
              refine tkw_val 26 89 (.int .u8 ((by_ b 1).toNat : Int)) rfl (by kernel_rfl) (by kernel_rfl) (by kernel_rfl) (fun _ _ _ _ h => h) (by kernel_rfl) rfl (fun ww h => ev_load_u8 (.tmp 88) (w.heap.size + 1) 1 _ rfl rfl (CB.out 1 (by omega) ww h)) h0 ?_
              simp only [Act.put, List.setIfInBounds_toArray, List.set_cons_zero, List.set_cons_succ]
              refine tkw_val 27 90 (.bool true) rfl (by kernel_rfl) (by kernel_rfl) (by kernel_rfl) (fun _ _ _ _ h => h) (by kernel_rfl) rfl (fun _ _ => ev_eql_u8 (.tmp 87) (.tmp 89) _ _ true rfl rfl rfl (by rw [EQ.out]; exact q1)) h0 ?_
              simp only [Act.put, List.setIfInBounds_toArray, List.set_cons_zero, List.set_cons_succ]
              refine tkw_val 28 91 (.bool true) rfl (by kernel_rfl) (by kernel_rfl) (by kernel_rfl) (fun _ _ _ _ h => h) (by kernel_rfl) rfl (fun _ _ => ev_pick_t (.tmp 85) (.tmp 90) (.const (.bool false)) _ rfl rfl rfl) h0 ?_
              simp only [Act.put, List.setIfInBounds_toArray, List.set_cons_zero, List.set_cons_succ]
              refine tkw_val 29 92 (.bool true) rfl (by kernel_rfl) (by kernel_rfl) (by kernel_rfl) (fun _ _ _ _ h => h) (by kernel_rfl) rfl (fun _ _ => ev_move (.tmp 91) (.bool true) rfl rfl) h0 ?_
              simp only [Act.put, List.setIfInBounds_toArray, List.set_cons_zero, List.set_cons_succ]
              refine tkw_val 30 93 (.pointer (some ⟨w.heap.size, 2, none⟩)) rfl (by kernel_rfl) (by kernel_rfl) (by kernel_rfl) (fun _ _ _ _ h => h) (by kernel_rfl) rfl (fun _ _ => ev_idx_dig (.tmp 3) w.heap.size 2 rfl rfl (by omega)) h0 ?_
              simp only [Act.put, List.setIfInBounds_toArray, List.set_cons_zero, List.set_cons_succ]
              refine tkw_val 31 94 (.int .u8 ((by_ a 2).toNat : Int)) rfl (by kernel_rfl) (by kernel_rfl) (by kernel_rfl) (fun _ _ _ _ h => h) (by kernel_rfl) rfl (fun ww h => ev_load_u8 (.tmp 93) w.heap.size 2 _ rfl rfl (CA.out 2 (by omega) ww h)) h0 ?_
              simp only [Act.put, List.setIfInBounds_toArray, List.set_cons_zero, List.set_cons_succ]
              refine tkw_val 32 95 (.pointer (some ⟨w.heap.size + 1, 2, none⟩)) rfl (by kernel_rfl) (by kernel_rfl) (by kernel_rfl) (fun _ _ _ _ h => h) (by kernel_rfl) rfl (fun _ _ => ev_idx_dig (.tmp 4) (w.heap.size + 1) 2 rfl rfl (by omega)) h0 ?_
              simp only [Act.put, List.setIfInBounds_toArray, List.set_cons_zero, List.set_cons_succ]
              refine tkw_val 33 96 (.int .u8 ((by_ b 2).toNat : Int)) rfl (by kernel_rfl) (by kernel_rfl) (by kernel_rfl) (fun _ _ _ _ h => h) (by kernel_rfl) rfl (fun ww h => ev_load_u8 (.tmp 95) (w.heap.size + 1) 2 _ rfl rfl (CB.out 2 (by omega) ww h)) h0 ?_
              simp only [Act.put, List.setIfInBounds_toArray, List.set_cons_zero, List.set_cons_succ]
              refine tkw_val 34 97 (.bool true) rfl (by kernel_rfl) (by kernel_rfl) (by kernel_rfl) (fun _ _ _ _ h => h) (by kernel_rfl) rfl (fun _ _ => ev_eql_u8 (.tmp 94) (.tmp 96) _ _ true rfl rfl rfl (by rw [EQ.out]; exact q2)) h0 ?_
              simp only [Act.put, List.setIfInBounds_toArray, List.set_cons_zero, List.set_cons_succ]
              refine tkw_val 35 98 (.bool true) rfl (by kernel_rfl) (by kernel_rfl) (by kernel_rfl) (fun _ _ _ _ h => h) (by kernel_rfl) rfl (fun _ _ => ev_pick_t (.tmp 92) (.tmp 97) (.const (.bool false)) _ rfl rfl rfl) h0 ?_
              simp only [Act.put, List.setIfInBounds_toArray, List.set_cons_zero, List.set_cons_succ]
              refine tkw_val 36 99 (.bool true) rfl (by kernel_rfl) (by kernel_rfl) (by kernel_rfl) (fun _ _ _ _ h => h) (by kernel_rfl) rfl (fun _ _ => ev_move (.tmp 98) (.bool true) rfl rfl) h0 ?_
              simp only [Act.put, List.setIfInBounds_toArray, List.set_cons_zero, List.set_cons_succ]
              refine tkw_val 37 100 (.pointer (some ⟨w.heap.size, 3, none⟩)) rfl (by kernel_rfl) (by kernel_rfl) (by kernel_rfl) (fun _ _ _ _ h => h) (by kernel_rfl) rfl (fun _ _ => ev_idx_dig (.tmp 3) w.heap.size 3 rfl rfl (by omega)) h0 ?_
              simp only [Act.put, List.setIfInBounds_toArray, List.set_cons_zero, List.set_cons_succ]
              refine tkw_val 38 101 (.int .u8 ((by_ a 3).toNat : Int)) rfl (by kernel_rfl) (by kernel_rfl) (by kernel_rfl) (fun _ _ _ _ h => h) (by kernel_rfl) rfl (fun ww h => ev_load_u8 (.tmp 100) w.heap.size 3 _ rfl rfl (CA.out 3 (by omega) ww h)) h0 ?_
              simp only [Act.put, List.setIfInBounds_toArray, List.set_cons_zero, List.set_cons_succ]
              refine tkw_val 39 102 (.pointer (some ⟨w.heap.size + 1, 3, none⟩)) rfl (by kernel_rfl) (by kernel_rfl) (by kernel_rfl) (fun _ _ _ _ h => h) (by kernel_rfl) rfl (fun _ _ => ev_idx_dig (.tmp 4) (w.heap.size + 1) 3 rfl rfl (by omega)) h0 ?_
              simp only [Act.put, List.setIfInBounds_toArray, List.set_cons_zero, List.set_cons_succ]
              refine tkw_val 40 103 (.int .u8 ((by_ b 3).toNat : Int)) rfl (by kernel_rfl) (by kernel_rfl) (by kernel_rfl) (fun _ _ _ _ h => h) (by kernel_rfl) rfl (fun ww h => ev_load_u8 (.tmp 102) (w.heap.size + 1) 3 _ rfl rfl (CB.out 3 (by omega) ww h)) h0 ?_
              simp only [Act.put, List.setIfInBounds_toArray, List.set_cons_zero, List.set_cons_succ]
              refine tkw_val 41 104 (.bool sb) rfl (by kernel_rfl) (by kernel_rfl) (by kernel_rfl) (fun _ _ _ _ h => h) (by kernel_rfl) rfl (fun _ _ => ev_eql_u8 (.tmp 101) (.tmp 103) _ _ sb rfl rfl rfl (by rw [EQ.out]; exact q3)) h0 ?_
              simp only [Act.put, List.setIfInBounds_toArray, List.set_cons_zero, List.set_cons_succ]
              refine tkw_val 42 105 (.bool sb) rfl (by kernel_rfl) (by kernel_rfl) (by kernel_rfl) (fun _ _ _ _ h => h) (by kernel_rfl) rfl (fun _ _ => ev_pick_t (.tmp 99) (.tmp 104) (.const (.bool false)) _ rfl rfl rfl) h0 ?_
              simp only [Act.put, List.setIfInBounds_toArray, List.set_cons_zero, List.set_cons_succ]
              refine tkw_val 43 106 (.bool false) rfl (by kernel_rfl) (by kernel_rfl) (by kernel_rfl) (fun _ _ _ _ h => h) (by kernel_rfl) rfl (fun _ _ => ev_neq_bool (.tmp 79) (.tmp 105) sb sb false rfl rfl rfl (by simp)) h0 ?_
              simp only [Act.put, List.setIfInBounds_toArray, List.set_cons_zero, List.set_cons_succ]
              refine tk_val 44 107 (.bool false) rfl (by kernel_rfl) (by kernel_rfl) (by kernel_rfl) (fun _ _ _ _ h => h) rfl rfl (fun _ _ => ev_pick_f (.tmp 78) (.const (.bool true)) (.tmp 106) _ rfl rfl rfl) h0 ?_
              simp only [Act.put, List.setIfInBounds_toArray, List.set_cons_zero, List.set_cons_succ]
              refine wpAnyH_done (by kernel_rfl) (NoPanic.normal ?_) _
              have H0 := Lib.hid h0
              clear h0
              go_wp2_with fail
              go_meet
              exact ⟨rfl, H0.out⟩
            · have q2 : decide (by_ a 2 = by_ b 2) = false := decide_eq_false e2
              have hsb : sb = false := by rw [← HDD.out]; exact decide_eq_false fun h => e2 (DBY.out.1 h).2.2.1
              subst hsb
              refine tkw_val 16 79 (.bool false) rfl (by kernel_rfl) (by kernel_rfl) (by kernel_rfl) (fun _ _ _ _ h => h) (by kernel_rfl) rfl (fun _ _ => ev_move (.tmp 10) (.bool false) rfl rfl) h0 ?_
              simp only [Act.put, List.setIfInBounds_toArray, List.set_cons_zero, List.set_cons_succ]
              refine tkw_val 17 80 (.pointer (some ⟨w.heap.size, 0, none⟩)) rfl (by kernel_rfl) (by kernel_rfl) (by kernel_rfl) (fun _ _ _ _ h => h) (by kernel_rfl) rfl (fun _ _ => ev_idx_dig (.tmp 3) w.heap.size 0 rfl rfl (by omega)) h0 ?_
              simp only [Act.put, List.setIfInBounds_toArray, List.set_cons_zero, List.set_cons_succ]
              refine tkw_val 18 81 (.int .u8 ((by_ a 0).toNat : Int)) rfl (by kernel_rfl) (by kernel_rfl) (by kernel_rfl) (fun _ _ _ _ h => h) (by kernel_rfl) rfl (fun ww h => ev_load_u8 (.tmp 80) w.heap.size 0 _ rfl rfl (CA.out 0 (by omega) ww h)) h0 ?_
              simp only [Act.put, List.setIfInBounds_toArray, List.set_cons_zero, List.set_cons_succ]
              refine tkw_val 19 82 (.pointer (some ⟨w.heap.size + 1, 0, none⟩)) rfl (by kernel_rfl) (by kernel_rfl) (by kernel_rfl) (fun _ _ _ _ h => h) (by kernel_rfl) rfl (fun _ _ => ev_idx_dig (.tmp 4) (w.heap.size + 1) 0 rfl rfl (by omega)) h0 ?_
              simp only [Act.put, List.setIfInBounds_toArray, List.set_cons_zero, List.set_cons_succ]
              refine tkw_val 20 83 (.int .u8 ((by_ b 0).toNat : Int)) rfl (by kernel_rfl) (by kernel_rfl) (by kernel_rfl) (fun _ _ _ _ h => h) (by kernel_rfl) rfl (fun ww h => ev_load_u8 (.tmp 82) (w.heap.size + 1) 0 _ rfl rfl (CB.out 0 (by omega) ww h)) h0 ?_
              simp only [Act.put, List.setIfInBounds_toArray, List.set_cons_zero, List.set_cons_succ]
              refine tkw_val 21 84 (.bool true) rfl (by kernel_rfl) (by kernel_rfl) (by kernel_rfl) (fun _ _ _ _ h => h) (by kernel_rfl) rfl (fun _ _ => ev_eql_u8 (.tmp 81) (.tmp 83) _ _ true rfl rfl rfl (by rw [EQ.out]; exact q0)) h0 ?_
              simp only [Act.put, List.setIfInBounds_toArray, List.set_cons_zero, List.set_cons_succ]
              refine tkw_val 22 85 (.bool true) rfl (by kernel_rfl) (by kernel_rfl) (by kernel_rfl) (fun _ _ _ _ h => h) (by kernel_rfl) rfl (fun _ _ => ev_move (.tmp 84) (.bool true) rfl rfl) h0 ?_
              simp only [Act.put, List.setIfInBounds_toArray, List.set_cons_zero, List.set_cons_succ]
              refine tkw_val 23 86 (.pointer (some ⟨w.heap.size, 1, none⟩)) rfl (by kernel_rfl) (by kernel_rfl) (by kernel_rfl) (fun _ _ _ _ h => h) (by kernel_rfl) rfl (fun _ _ => ev_idx_dig (.tmp 3) w.heap.size 1 rfl rfl (by omega)) h0 ?_
              simp only [Act.put, List.setIfInBounds_toArray, List.set_cons_zero, List.set_cons_succ]
              refine tkw_val 24 87 (.int .u8 ((by_ a 1).toNat : Int)) rfl (by kernel_rfl) (by kernel_rfl) (by kernel_rfl) (fun _ _ _ _ h => h) (by kernel_rfl) rfl (fun ww h => ev_load_u8 (.tmp 86) w.heap.size 1 _ rfl rfl (CA.out 1 (by omega) ww h)) h0 ?_
              simp only [Act.put, List.setIfInBounds_toArray, List.set_cons_zero, List.set_cons_succ]
              refine tkw_val 25 88 (.pointer (some ⟨w.heap.size + 1, 1, none⟩)) rfl (by kernel_rfl) (by kernel_rfl) (by kernel_rfl) (fun _ _ _ _ h => h) (by kernel_rfl) rfl (fun _ _ => ev_idx_dig (.tmp 4) (w.heap.size + 1) 1 rfl rfl (by omega)) h0 ?_
              simp only [Act.put, List.setIfInBounds_toArray, List.set_cons_zero, List.set_cons_succ]
              refine tkw_val 26 89 (.int .u8 ((by_ b 1).toNat : Int)) rfl (by kernel_rfl) (by kernel_rfl) (by kernel_rfl) (fun _ _ _ _ h => h) (by kernel_rfl) rfl (fun ww h => ev_load_u8 (.tmp 88) (w.heap.size + 1) 1 _ rfl rfl (CB.out 1 (by omega) ww h)) h0 ?_
              simp only [Act.put, List.setIfInBounds_toArray, List.set_cons_zero, List.set_cons_succ]
              refine tkw_val 27 90 (.bool true) rfl (by kernel_rfl) (by kernel_rfl) (by kernel_rfl) (fun _ _ _ _ h => h) (by kernel_rfl) rfl (fun _ _ => ev_eql_u8 (.tmp 87) (.tmp 89) _ _ true rfl rfl rfl (by rw [EQ.out]; exact q1)) h0 ?_
              simp only [Act.put, List.setIfInBounds_toArray, List.set_cons_zero, List.set_cons_succ]
              refine tkw_val 28 91 (.bool true) rfl (by kernel_rfl) (by kernel_rfl) (by kernel_rfl) (fun _ _ _ _ h => h) (by kernel_rfl) rfl (fun _ _ => ev_pick_t (.tmp 85) (.tmp 90) (.const (.bool false)) _ rfl rfl rfl) h0 ?_
              simp only [Act.put, List.setIfInBounds_toArray, List.set_cons_zero, List.set_cons_succ]
              refine tkw_val 29 92 (.bool true) rfl (by kernel_rfl) (by kernel_rfl) (by kernel_rfl) (fun _ _ _ _ h => h) (by kernel_rfl) rfl (fun _ _ => ev_move (.tmp 91) (.bool true) rfl rfl) h0 ?_
              simp only [Act.put, List.setIfInBounds_toArray, List.set_cons_zero, List.set_cons_succ]
              refine tkw_val 30 93 (.pointer (some ⟨w.heap.size, 2, none⟩)) rfl (by kernel_rfl) (by kernel_rfl) (by kernel_rfl) (fun _ _ _ _ h => h) (by kernel_rfl) rfl (fun _ _ => ev_idx_dig (.tmp 3) w.heap.size 2 rfl rfl (by omega)) h0 ?_
              simp only [Act.put, List.setIfInBounds_toArray, List.set_cons_zero, List.set_cons_succ]
              refine tkw_val 31 94 (.int .u8 ((by_ a 2).toNat : Int)) rfl (by kernel_rfl) (by kernel_rfl) (by kernel_rfl) (fun _ _ _ _ h => h) (by kernel_rfl) rfl (fun ww h => ev_load_u8 (.tmp 93) w.heap.size 2 _ rfl rfl (CA.out 2 (by omega) ww h)) h0 ?_
              simp only [Act.put, List.setIfInBounds_toArray, List.set_cons_zero, List.set_cons_succ]
              refine tkw_val 32 95 (.pointer (some ⟨w.heap.size + 1, 2, none⟩)) rfl (by kernel_rfl) (by kernel_rfl) (by kernel_rfl) (fun _ _ _ _ h => h) (by kernel_rfl) rfl (fun _ _ => ev_idx_dig (.tmp 4) (w.heap.size + 1) 2 rfl rfl (by omega)) h0 ?_
              simp only [Act.put, List.setIfInBounds_toArray, List.set_cons_zero, List.set_cons_succ]
              refine tkw_val 33 96 (.int .u8 ((by_ b 2).toNat : Int)) rfl (by kernel_rfl) (by kernel_rfl) (by kernel_rfl) (fun _ _ _ _ h => h) (by kernel_rfl) rfl (fun ww h => ev_load_u8 (.tmp 95) (w.heap.size + 1) 2 _ rfl rfl (CB.out 2 (by omega) ww h)) h0 ?_
              simp only [Act.put, List.setIfInBounds_toArray, List.set_cons_zero, List.set_cons_succ]
              refine tkw_val 34 97 (.bool false) rfl (by kernel_rfl) (by kernel_rfl) (by kernel_rfl) (fun _ _ _ _ h => h) (by kernel_rfl) rfl (fun _ _ => ev_eql_u8 (.tmp 94) (.tmp 96) _ _ false rfl rfl rfl (by rw [EQ.out]; exact q2)) h0 ?_
              simp only [Act.put, List.setIfInBounds_toArray, List.set_cons_zero, List.set_cons_succ]
              refine tkw_val 35 98 (.bool false) rfl (by kernel_rfl) (by kernel_rfl) (by kernel_rfl) (fun _ _ _ _ h => h) (by kernel_rfl) rfl (fun _ _ => ev_pick_t (.tmp 92) (.tmp 97) (.const (.bool false)) _ rfl rfl rfl) h0 ?_
              simp only [Act.put, List.setIfInBounds_toArray, List.set_cons_zero, List.set_cons_succ]
              refine tkw_val 36 99 (.bool false) rfl (by kernel_rfl) (by kernel_rfl) (by kernel_rfl) (fun _ _ _ _ h => h) (by kernel_rfl) rfl (fun _ _ => ev_move (.tmp 98) (.bool false) rfl rfl) h0 ?_
              simp only [Act.put, List.setIfInBounds_toArray, List.set_cons_zero, List.set_cons_succ]
              refine tkw_skip 37 100 rfl (by kernel_rfl) (by kernel_rfl) (by kernel_rfl) (fun _ _ _ _ h => h) (by kernel_rfl) rfl h0 ?_
              simp only [Act.put, List.setIfInBounds_toArray, List.set_cons_zero, List.set_cons_succ]
              refine tkw_skip 38 101 rfl (by kernel_rfl) (by kernel_rfl) (by kernel_rfl) (fun _ _ _ _ h => h) (by kernel_rfl) rfl h0 ?_
              simp only [Act.put, List.setIfInBounds_toArray, List.set_cons_zero, List.set_cons_succ]
              refine tkw_skip 39 102 rfl (by kernel_rfl) (by kernel_rfl) (by kernel_rfl) (fun _ _ _ _ h => h) (by kernel_rfl) rfl h0 ?_
              simp only [Act.put, List.setIfInBounds_toArray, List.set_cons_zero, List.set_cons_succ]
              refine tkw_skip 40 103 rfl (by kernel_rfl) (by kernel_rfl) (by kernel_rfl) (fun _ _ _ _ h => h) (by kernel_rfl) rfl h0 ?_
              simp only [Act.put, List.setIfInBounds_toArray, List.set_cons_zero, List.set_cons_succ]
              refine tkw_skip 41 104 rfl (by kernel_rfl) (by kernel_rfl) (by kernel_rfl) (fun _ _ _ _ h => h) (by kernel_rfl) rfl h0 ?_
              simp only [Act.put, List.setIfInBounds_toArray, List.set_cons_zero, List.set_cons_succ]
              refine tkw_val 42 105 (.bool false) rfl (by kernel_rfl) (by kernel_rfl) (by kernel_rfl) (fun _ _ _ _ h => h) (by kernel_rfl) rfl (fun _ _ => ev_pick_f (.tmp 99) (.tmp 104) (.const (.bool false)) _ rfl rfl rfl) h0 ?_
              simp only [Act.put, List.setIfInBounds_toArray, List.set_cons_zero, List.set_cons_succ]
              refine tkw_val 43 106 (.bool false) rfl (by kernel_rfl) (by kernel_rfl) (by kernel_rfl) (fun _ _ _ _ h => h) (by kernel_rfl) rfl (fun _ _ => ev_neq_bool (.tmp 79) (.tmp 105) false false false rfl rfl rfl (by simp)) h0 ?_
              simp only [Act.put, List.setIfInBounds_toArray, List.set_cons_zero, List.set_cons_succ]
              refine tk_val 44 107 (.bool false) rfl (by kernel_rfl) (by kernel_rfl) (by kernel_rfl) (fun _ _ _ _ h => h) rfl rfl (fun _ _ => ev_pick_f (.tmp 78) (.const (.bool true)) (.tmp 106) _ rfl rfl rfl) h0 ?_
              simp only [Act.put, List.setIfInBounds_toArray, List.set_cons_zero, List.set_cons_succ]
              refine wpAnyH_done (by kernel_rfl) (NoPanic.normal ?_) _
              have H0 := Lib.hid h0
              clear h0
              go_wp2_with fail
              go_meet
              exact ⟨rfl, H0.out⟩
          · have q1 : decide (by_ a 1 = by_ b 1) = false := decide_eq_false e1
            have hsb : sb = false := by rw [← HDD.out]; exact decide_eq_false fun h => e1 (DBY.out.1 h).2.1
            subst hsb
            refine tkw_val 16 79 (.bool false) rfl (by kernel_rfl) (by kernel_rfl) (by kernel_rfl) (fun _ _ _ _ h => h) (by kernel_rfl) rfl (fun _ _ => ev_move (.tmp 10) (.bool false) rfl rfl) h0 ?_
            simp only [Act.put, List.setIfInBounds_toArray, List.set_cons_zero, List.set_cons_succ]
            refine tkw_val 17 80 (.pointer (some ⟨w.heap.size, 0, none⟩)) rfl (by kernel_rfl) (by kernel_rfl) (by kernel_rfl) (fun _ _ _ _ h => h) (by kernel_rfl) rfl (fun _ _ => ev_idx_dig (.tmp 3) w.heap.size 0 rfl rfl (by omega)) h0 ?_
            simp only [Act.put, List.setIfInBounds_toArray, List.set_cons_zero, List.set_cons_succ]
            refine tkw_val 18 81 (.int .u8 ((by_ a 0).toNat : Int)) rfl (by kernel_rfl) (by kernel_rfl) (by kernel_rfl) (fun _ _ _ _ h => h) (by kernel_rfl) rfl (fun ww h => ev_load_u8 (.tmp 80) w.heap.size 0 _ rfl rfl (CA.out 0 (by omega) ww h)) h0 ?_
            simp only [Act.put, List.setIfInBounds_toArray, List.set_cons_zero, List.set_cons_succ]
            refine tkw_val 19 82 (.pointer (some ⟨w.heap.size + 1, 0, none⟩)) rfl (by kernel_rfl) (by kernel_rfl) (by kernel_rfl) (fun _ _ _ _ h => h) (by kernel_rfl) rfl (fun _ _ => ev_idx_dig (.tmp 4) (w.heap.size + 1) 0 rfl rfl (by omega)) h0 ?_
            simp only [Act.put, List.setIfInBounds_toArray, List.set_cons_zero, List.set_cons_succ]
            refine tkw_val 20 83 (.int .u8 ((by_ b 0).toNat : Int)) rfl (by kernel_rfl) (by kernel_rfl) (by kernel_rfl) (fun _ _ _ _ h => h) (by kernel_rfl) rfl (fun ww h => ev_load_u8 (.tmp 82) (w.heap.size + 1) 0 _ rfl rfl (CB.out 0 (by omega) ww h)) h0 ?_
            simp only [Act.put, List.setIfInBounds_toArray, List.set_cons_zero, List.set_cons_succ]
            refine tkw_val 21 84 (.bool true) rfl (by kernel_rfl) (by kernel_rfl) (by kernel_rfl) (fun _ _ _ _ h => h) (by kernel_rfl) rfl (fun _ _ => ev_eql_u8 (.tmp 81) (.tmp 83) _ _ true rfl rfl rfl (by rw [EQ.out]; exact q0)) h0 ?_
            simp only [Act.put, List.setIfInBounds_toArray, List.set_cons_zero, List.set_cons_succ]
            refine tkw_val 22 85 (.bool true) rfl (by kernel_rfl) (by kernel_rfl) (by kernel_rfl) (fun _ _ _ _ h => h) (by kernel_rfl) rfl (fun _ _ => ev_move (.tmp 84) (.bool true) rfl rfl) h0 ?_
            simp only [Act.put, List.setIfInBounds_toArray, List.set_cons_zero, List.set_cons_succ]
            refine tkw_val 23 86 (.pointer (some ⟨w.heap.size, 1, none⟩)) rfl (by kernel_rfl) (by kernel_rfl) (by kernel_rfl) (fun _ _ _ _ h => h) (by kernel_rfl) rfl (fun _ _ => ev_idx_dig (.tmp 3) w.heap.size 1 rfl rfl (by omega)) h0 ?_
            simp only [Act.put, List.setIfInBounds_toArray, List.set_cons_zero, List.set_cons_succ]
            refine tkw_val 24 87 (.int .u8 ((by_ a 1).toNat : Int)) rfl (by kernel_rfl) (by kernel_rfl) (by kernel_rfl) (fun _ _ _ _ h => h) (by kernel_rfl) rfl (fun ww h => ev_load_u8 (.tmp 86) w.heap.size 1 _ rfl rfl (CA.out 1 (by omega) ww h)) h0 ?_
            simp only [Act.put, List.setIfInBounds_toArray, List.set_cons_zero, List.set_cons_succ]
            refine tkw_val 25 88 (.pointer (some ⟨w.heap.size + 1, 1, none⟩)) rfl (by kernel_rfl) (by kernel_rfl) (by kernel_rfl) (fun _ _ _ _ h => h) (by kernel_rfl) rfl (fun _ _ => ev_idx_dig (.tmp 4) (w.heap.size + 1) 1 rfl rfl (by omega)) h0 ?_
            simp only [Act.put, List.setIfInBounds_toArray, List.set_cons_zero, List.set_cons_succ]
            refine tkw_val 26 89 (.int .u8 ((by_ b 1).toNat : Int)) rfl (by kernel_rfl) (by kernel_rfl) (by kernel_rfl) (fun _ _ _ _ h => h) (by kernel_rfl) rfl (fun ww h => ev_load_u8 (.tmp 88) (w.heap.size + 1) 1 _ rfl rfl (CB.out 1 (by omega) ww h)) h0 ?_
            simp only [Act.put, List.setIfInBounds_toArray, List.set_cons_zero, List.set_cons_succ]
            refine tkw_val 27 90 (.bool false) rfl (by kernel_rfl) (by kernel_rfl) (by kernel_rfl) (fun _ _ _ _ h => h) (by kernel_rfl) rfl (fun _ _ => ev_eql_u8 (.tmp 87) (.tmp 89) _ _ false rfl rfl rfl (by rw [EQ.out]; exact q1)) h0 ?_
            simp only [Act.put, List.setIfInBounds_toArray, List.set_cons_zero, List.set_cons_succ]
            refine tkw_val 28 91 (.bool false) rfl (by kernel_rfl) (by kernel_rfl) (by kernel_rfl) (fun _ _ _ _ h => h) (by kernel_rfl) rfl (fun _ _ => ev_pick_t (.tmp 85) (.tmp 90) (.const (.bool false)) _ rfl rfl rfl) h0 ?_
            simp only [Act.put, List.setIfInBounds_toArray, List.set_cons_zero, List.set_cons_succ]
            refine tkw_val 29 92 (.bool false) rfl (by kernel_rfl) (by kernel_rfl) (by kernel_rfl) (fun _ _ _ _ h => h) (by kernel_rfl) rfl (fun _ _ => ev_move (.tmp 91) (.bool false) rfl rfl) h0 ?_
            simp only [Act.put, List.setIfInBounds_toArray, List.set_cons_zero, List.set_cons_succ]
            refine tkw_skip 30 93 rfl (by kernel_rfl) (by kernel_rfl) (by kernel_rfl) (fun _ _ _ _ h => h) (by kernel_rfl) rfl h0 ?_
            simp only [Act.put, List.setIfInBounds_toArray, List.set_cons_zero, List.set_cons_succ]
            refine tkw_skip 31 94 rfl (by kernel_rfl) (by kernel_rfl) (by kernel_rfl) (fun _ _ _ _ h => h) (by kernel_rfl) rfl h0 ?_
            simp only [Act.put, List.setIfInBounds_toArray, List.set_cons_zero, List.set_cons_succ]
            refine tkw_skip 32 95 rfl (by kernel_rfl) (by kernel_rfl) (by kernel_rfl) (fun _ _ _ _ h => h) (by kernel_rfl) rfl h0 ?_
            simp only [Act.put, List.setIfInBounds_toArray, List.set_cons_zero, List.set_cons_succ]
            refine tkw_skip 33 96 rfl (by kernel_rfl) (by kernel_rfl) (by kernel_rfl) (fun _ _ _ _ h => h) (by kernel_rfl) rfl h0 ?_
            simp only [Act.put, List.setIfInBounds_toArray, List.set_cons_zero, List.set_cons_succ]
            refine tkw_skip 34 97 rfl (by kernel_rfl) (by kernel_rfl) (by kernel_rfl) (fun _ _ _ _ h => h) (by kernel_rfl) rfl h0 ?_
            simp only [Act.put, List.setIfInBounds_toArray, List.set_cons_zero, List.set_cons_succ]
            refine tkw_val 35 98 (.bool false) rfl (by kernel_rfl) (by kernel_rfl) (by kernel_rfl) (fun _ _ _ _ h => h) (by kernel_rfl) rfl (fun _ _ => ev_pick_f (.tmp 92) (.tmp 97) (.const (.bool false)) _ rfl rfl rfl) h0 ?_
            simp only [Act.put, List.setIfInBounds_toArray, List.set_cons_zero, List.set_cons_succ]
            refine tkw_val 36 99 (.bool false) rfl (by kernel_rfl) (by kernel_rfl) (by kernel_rfl) (fun _ _ _ _ h => h) (by kernel_rfl) rfl (fun _ _ => ev_move (.tmp 98) (.bool false) rfl rfl) h0 ?_
            simp only [Act.put, List.setIfInBounds_toArray, List.set_cons_zero, List.set_cons_succ]
            refine tkw_skip 37 100 rfl (by kernel_rfl) (by kernel_rfl) (by kernel_rfl) (fun _ _ _ _ h => h) (by kernel_rfl) rfl h0 ?_
            simp only [Act.put, List.setIfInBounds_toArray, List.set_cons_zero, List.set_cons_succ]
            refine tkw_skip 38 101 rfl (by kernel_rfl) (by kernel_rfl) (by kernel_rfl) (fun _ _ _ _ h => h) (by kernel_rfl) rfl h0 ?_
            simp only [Act.put, List.setIfInBounds_toArray, List.set_cons_zero, List.set_cons_succ]
            refine tkw_skip 39 102 rfl (by kernel_rfl) (by kernel_rfl) (by kernel_rfl) (fun _ _ _ _ h => h) (by kernel_rfl) rfl h0 ?_
            simp only [Act.put, List.setIfInBounds_toArray, List.set_cons_zero, List.set_cons_succ]
            refine tkw_skip 40 103 rfl (by kernel_rfl) (by kernel_rfl) (by kernel_rfl) (fun _ _ _ _ h => h) (by kernel_rfl) rfl h0 ?_
            simp only [Act.put, List.setIfInBounds_toArray, List.set_cons_zero, List.set_cons_succ]
            refine tkw_skip 41 104 rfl (by kernel_rfl) (by kernel_rfl) (by kernel_rfl) (fun _ _ _ _ h => h) (by kernel_rfl) rfl h0 ?_
            simp only [Act.put, List.setIfInBounds_toArray, List.set_cons_zero, List.set_cons_succ]
            refine tkw_val 42 105 (.bool false) rfl (by kernel_rfl) (by kernel_rfl) (by kernel_rfl) (fun _ _ _ _ h => h) (by kernel_rfl) rfl (fun _ _ => ev_pick_f (.tmp 99) (.tmp 104) (.const (.bool false)) _ rfl rfl rfl) h0 ?_
            simp only [Act.put, List.setIfInBounds_toArray, List.set_cons_zero, List.set_cons_succ]
            refine tkw_val 43 106 (.bool false) rfl (by kernel_rfl) (by kernel_rfl) (by kernel_rfl) (fun _ _ _ _ h => h) (by kernel_rfl) rfl (fun _ _ => ev_neq_bool (.tmp 79) (.tmp 105) false false false rfl rfl rfl (by simp)) h0 ?_
            simp only [Act.put, List.setIfInBounds_toArray, List.set_cons_zero, List.set_cons_succ]
            refine tk_val 44 107 (.bool false) rfl (by kernel_rfl) (by kernel_rfl) (by kernel_rfl) (fun _ _ _ _ h => h) rfl rfl (fun _ _ => ev_pick_f (.tmp 78) (.const (.bool true)) (.tmp 106) _ rfl rfl rfl) h0 ?_
            simp only [Act.put, List.setIfInBounds_toArray, List.set_cons_zero, List.set_cons_succ]
            refine wpAnyH_done (by kernel_rfl) (NoPanic.normal ?_) _
            have H0 := Lib.hid h0
            clear h0
            go_wp2_with fail
            go_meet
            exact ⟨rfl, H0.out⟩
        · have q0 : decide (by_ a 0 = by_ b 0) = false := decide_eq_false e0
          have hsb : sb = false := by rw [← HDD.out]; exact decide_eq_false fun h => e0 (DBY.out.1 h).1
          subst hsb
          refine tkw_val 16 79 (.bool false) rfl (by kernel_rfl) (by kernel_rfl) (by kernel_rfl) (fun _ _ _ _ h => h) (by kernel_rfl) rfl (fun _ _ => ev_move (.tmp 10) (.bool false) rfl rfl) h0 ?_
          simp only [Act.put, List.setIfInBounds_toArray, List.set_cons_zero, List.set_cons_succ]
          refine tkw_val 17 80 (.pointer (some ⟨w.heap.size, 0, none⟩)) rfl (by kernel_rfl) (by kernel_rfl) (by kernel_rfl) (fun _ _ _ _ h => h) (by kernel_rfl) rfl (fun _ _ => ev_idx_dig (.tmp 3) w.heap.size 0 rfl rfl (by omega)) h0 ?_
          simp only [Act.put, List.setIfInBounds_toArray, List.set_cons_zero, List.set_cons_succ]
          refine tkw_val 18 81 (.int .u8 ((by_ a 0).toNat : Int)) rfl (by kernel_rfl) (by kernel_rfl) (by kernel_rfl) (fun _ _ _ _ h => h) (by kernel_rfl) rfl (fun ww h => ev_load_u8 (.tmp 80) w.heap.size 0 _ rfl rfl (CA.out 0 (by omega) ww h)) h0 ?_
          simp only [Act.put, List.setIfInBounds_toArray, List.set_cons_zero, List.set_cons_succ]
          refine tkw_val 19 82 (.pointer (some ⟨w.heap.size + 1, 0, none⟩)) rfl (by kernel_rfl) (by kernel_rfl) (by kernel_rfl) (fun _ _ _ _ h => h) (by kernel_rfl) rfl (fun _ _ => ev_idx_dig (.tmp 4) (w.heap.size + 1) 0 rfl rfl (by omega)) h0 ?_
          simp only [Act.put, List.setIfInBounds_toArray, List.set_cons_zero, List.set_cons_succ]
          refine tkw_val 20 83 (.int .u8 ((by_ b 0).toNat : Int)) rfl (by kernel_rfl) (by kernel_rfl) (by kernel_rfl) (fun _ _ _ _ h => h) (by kernel_rfl) rfl (fun ww h => ev_load_u8 (.tmp 82) (w.heap.size + 1) 0 _ rfl rfl (CB.out 0 (by omega) ww h)) h0 ?_
          simp only [Act.put, List.setIfInBounds_toArray, List.set_cons_zero, List.set_cons_succ]
          refine tkw_val 21 84 (.bool false) rfl (by kernel_rfl) (by kernel_rfl) (by kernel_rfl) (fun _ _ _ _ h => h) (by kernel_rfl) rfl (fun _ _ => ev_eql_u8 (.tmp 81) (.tmp 83) _ _ false rfl rfl rfl (by rw [EQ.out]; exact q0)) h0 ?_
          simp only [Act.put, List.setIfInBounds_toArray, List.set_cons_zero, List.set_cons_succ]
          refine tkw_val 22 85 (.bool false) rfl (by kernel_rfl) (by kernel_rfl) (by kernel_rfl) (fun _ _ _ _ h => h) (by kernel_rfl) rfl (fun _ _ => ev_move (.tmp 84) (.bool false) rfl rfl) h0 ?_
          simp only [Act.put, List.setIfInBounds_toArray, List.set_cons_zero, List.set_cons_succ]
          refine tkw_skip 23 86 rfl (by kernel_rfl) (by kernel_rfl) (by kernel_rfl) (fun _ _ _ _ h => h) (by kernel_rfl) rfl h0 ?_
          simp only [Act.put, List.setIfInBounds_toArray, List.set_cons_zero, List.set_cons_succ]
          refine tkw_skip 24 87 rfl (by kernel_rfl) (by kernel_rfl) (by kernel_rfl) (fun _ _ _ _ h => h) (by kernel_rfl) rfl h0 ?_
          simp only [Act.put, List.setIfInBounds_toArray, List.set_cons_zero, List.set_cons_succ]
          refine tkw_skip 25 88 rfl (by kernel_rfl) (by kernel_rfl) (by kernel_rfl) (fun _ _ _ _ h => h) (by kernel_rfl) rfl h0 ?_
          simp only [Act.put, List.setIfInBounds_toArray, List.set_cons_zero, List.set_cons_succ]
          refine tkw_skip 26 89 rfl (by kernel_rfl) (by kernel_rfl) (by kernel_rfl) (fun _ _ _ _ h => h) (by kernel_rfl) rfl h0 ?_
          simp only [Act.put, List.setIfInBounds_toArray, List.set_cons_zero, List.set_cons_succ]
          refine tkw_skip 27 90 rfl (by kernel_rfl) (by kernel_rfl) (by kernel_rfl) (fun _ _ _ _ h => h) (by kernel_rfl) rfl h0 ?_
          simp only [Act.put, List.setIfInBounds_toArray, List.set_cons_zero, List.set_cons_succ]
          refine tkw_val 28 91 (.bool false) rfl (by kernel_rfl) (by kernel_rfl) (by kernel_rfl) (fun _ _ _ _ h => h) (by kernel_rfl) rfl (fun _ _ => ev_pick_f (.tmp 85) (.tmp 90) (.const (.bool false)) _ rfl rfl rfl) h0 ?_
          simp only [Act.put, List.setIfInBounds_toArray, List.set_cons_zero, List.set_cons_succ]
          refine tkw_val 29 92 (.bool false) rfl (by kernel_rfl) (by kernel_rfl) (by kernel_rfl) (fun _ _ _ _ h => h) (by kernel_rfl) rfl (fun _ _ => ev_move (.tmp 91) (.bool false) rfl rfl) h0 ?_
          simp only [Act.put, List.setIfInBounds_toArray, List.set_cons_zero, List.set_cons_succ]
          refine tkw_skip 30 93 rfl (by kernel_rfl) (by kernel_rfl) (by kernel_rfl) (fun _ _ _ _ h => h) (by kernel_rfl) rfl h0 ?_
          simp only [Act.put, List.setIfInBounds_toArray, List.set_cons_zero, List.set_cons_succ]
          refine tkw_skip 31 94 rfl (by kernel_rfl) (by kernel_rfl) (by kernel_rfl) (fun _ _ _ _ h => h) (by kernel_rfl) rfl h0 ?_
          simp only [Act.put, List.setIfInBounds_toArray, List.set_cons_zero, List.set_cons_succ]
          refine tkw_skip 32 95 rfl (by kernel_rfl) (by kernel_rfl) (by kernel_rfl) (fun _ _ _ _ h => h) (by kernel_rfl) rfl h0 ?_
          simp only [Act.put, List.setIfInBounds_toArray, List.set_cons_zero, List.set_cons_succ]
          refine tkw_skip 33 96 rfl (by kernel_rfl) (by kernel_rfl) (by kernel_rfl) (fun _ _ _ _ h => h) (by kernel_rfl) rfl h0 ?_
          simp only [Act.put, List.setIfInBounds_toArray, List.set_cons_zero, List.set_cons_succ]
          refine tkw_skip 34 97 rfl (by kernel_rfl) (by kernel_rfl) (by kernel_rfl) (fun _ _ _ _ h => h) (by kernel_rfl) rfl h0 ?_
          simp only [Act.put, List.setIfInBounds_toArray, List.set_cons_zero, List.set_cons_succ]
          refine tkw_val 35 98 (.bool false) rfl (by kernel_rfl) (by kernel_rfl) (by kernel_rfl) (fun _ _ _ _ h => h) (by kernel_rfl) rfl (fun _ _ => ev_pick_f (.tmp 92) (.tmp 97) (.const (.bool false)) _ rfl rfl rfl) h0 ?_
          simp only [Act.put, List.setIfInBounds_toArray, List.set_cons_zero, List.set_cons_succ]
          refine tkw_val 36 99 (.bool false) rfl (by kernel_rfl) (by kernel_rfl) (by kernel_rfl) (fun _ _ _ _ h => h) (by kernel_rfl) rfl (fun _ _ => ev_move (.tmp 98) (.bool false) rfl rfl) h0 ?_
          simp only [Act.put, List.setIfInBounds_toArray, List.set_cons_zero, List.set_cons_succ]
          refine tkw_skip 37 100 rfl (by kernel_rfl) (by kernel_rfl) (by kernel_rfl) (fun _ _ _ _ h => h) (by kernel_rfl) rfl h0 ?_
          simp only [Act.put, List.setIfInBounds_toArray, List.set_cons_zero, List.set_cons_succ]
          refine tkw_skip 38 101 rfl (by kernel_rfl) (by kernel_rfl) (by kernel_rfl) (fun _ _ _ _ h => h) (by kernel_rfl) rfl h0 ?_
          simp only [Act.put, List.setIfInBounds_toArray, List.set_cons_zero, List.set_cons_succ]
          refine tkw_skip 39 102 rfl (by kernel_rfl) (by kernel_rfl) (by kernel_rfl) (fun _ _ _ _ h => h) (by kernel_rfl) rfl h0 ?_
          simp only [Act.put, List.setIfInBounds_toArray, List.set_cons_zero, List.set_cons_succ]
          refine tkw_skip 40 103 rfl (by kernel_rfl) (by kernel_rfl) (by kernel_rfl) (fun _ _ _ _ h => h) (by kernel_rfl) rfl h0 ?_
          simp only [Act.put, List.setIfInBounds_toArray, List.set_cons_zero, List.set_cons_succ]
          refine tkw_skip 41 104 rfl (by kernel_rfl) (by kernel_rfl) (by kernel_rfl) (fun _ _ _ _ h => h) (by kernel_rfl) rfl h0 ?_
          simp only [Act.put, List.setIfInBounds_toArray, List.set_cons_zero, List.set_cons_succ]
          refine tkw_val 42 105 (.bool false) rfl (by kernel_rfl) (by kernel_rfl) (by kernel_rfl) (fun _ _ _ _ h => h) (by kernel_rfl) rfl (fun _ _ => ev_pick_f (.tmp 99) (.tmp 104) (.const (.bool false)) _ rfl rfl rfl) h0 ?_
          simp only [Act.put, List.setIfInBounds_toArray, List.set_cons_zero, List.set_cons_succ]
          refine tkw_val 43 106 (.bool false) rfl (by kernel_rfl) (by kernel_rfl) (by kernel_rfl) (fun _ _ _ _ h => h) (by kernel_rfl) rfl (fun _ _ => ev_neq_bool (.tmp 79) (.tmp 105) false false false rfl rfl rfl (by simp)) h0 ?_
          simp only [Act.put, List.setIfInBounds_toArray, List.set_cons_zero, List.set_cons_succ]
          refine tk_val 44 107 (.bool false) rfl (by kernel_rfl) (by kernel_rfl) (by kernel_rfl) (fun _ _ _ _ h => h) rfl rfl (fun _ _ => ev_pick_f (.tmp 78) (.const (.bool true)) (.tmp 106) _ rfl rfl rfl) h0 ?_
          simp only [Act.put, List.setIfInBounds_toArray, List.set_cons_zero, List.set_cons_succ]
          refine wpAnyH_done (by kernel_rfl) (NoPanic.normal ?_) _
          have H0 := Lib.hid h0
          clear h0
          go_wp2_with fail
          go_meet
          exact ⟨rfl, H0.out⟩
      case rest =>
        obtain ⟨rfl, hbc⟩ := hcut
        by_cases hns : n = 19 ∧ ¬ dgl a = dgl b
        · obtain ⟨hn19, hne⟩ := hns
          subst hn19
          have hsb : sb = false := by rw [← HDD.out]; exact decide_eq_false hne
          subst hsb
          obtain ⟨i, hi, hE1, hl1⟩ := ear_is a b hne
          obtain ⟨j, hj, hE2, hl2⟩ := ear_is b a (fun h => hne h.symm)
          have HE1 := Lib.hid hE1
          have HE2 := Lib.hid hE2
          have GI := Lib.hid (show (dgl a)[i]? = some ((dgl a).getD i 0) ∧ (dgl b)[i]? = some ((dgl b).getD i 0) ∧ (dgl a)[j]? = some ((dgl a).getD j 0) ∧ (dgl b)[j]? = some ((dgl b).getD j 0) from by
            refine ⟨?_, ?_, ?_, ?_⟩ <;> rw [List.getD_eq_getElem?_getD, List.getElem?_eq_getElem (by first | (rw [DA.out]; omega) | (rw [DB.out]; omega))] <;> rfl)
          have KI := Lib.hid (show ∀ ww, Below w3.heap.size w3 ww → ww.cell? ⟨g1, i, none⟩ = some (.int .i64 (((dgl a).getD i 0 : Nat) : Int)) ∧ ww.cell? ⟨g2, i, none⟩ = some (.int .i64 (((dgl b).getD i 0 : Nat) : Int)) ∧ ww.cell? ⟨g1, j, none⟩ = some (.int .i64 (((dgl a).getD j 0 : Nat) : Int)) ∧ ww.cell? ⟨g2, j, none⟩ = some (.int .i64 (((dgl b).getD j 0 : Nat) : Int)) from fun ww h => ⟨(K3.out ww h).1.cell GI.out.1, (K3.out ww h).2.1.cell GI.out.2.1, (K3.out ww h).1.cell GI.out.2.2.1, (K3.out ww h).2.1.cell GI.out.2.2.2⟩)
          have HN := Lib.hid (show (19 : Nat) = 19 from rfl)
          clear hne hE1 hE2
          generalize (dgl a).getD i 0 = xi at *
          generalize (dgl b).getD i 0 = yi at *
          generalize (dgl a).getD j 0 = xj at *
          generalize (dgl b).getD j 0 = yj at *
          have z1 : (0 : Int) ≤ i := by omega
          have z2 : (i : Int) < 19 := by omega
          have z3 : (0 : Int) ≤ j := by omega
          have z4 : (j : Int) < 19 := by omega
          have C1 := earlier_v a b 19 cap A wc HA.out HB.out (by omega)
          rw [show earV 19 a b = some i from (by unfold earV; rw [if_pos rfl]; exact HE1.out), show erv (some i) = (.tuple #[.int .i64 (i : Int), .bool true] : Value) from rfl] at C1
          have CC1 := Lib.hid C1
          have rm := (K3.out wc hbc).2.2.1
          have rb := (K3.out wc hbc).2.2.2.1
          clear C1
          go_wp2_with (first | (refine load_B rfl (.tmp 3) rfl w.heap.size rfl 23 a rm HA.out ?_) | (refine load_B rfl (.tmp 4) rfl (w.heap.size + 1) rfl 23 b rb HB.out ?_))
          refine CC1.out.mono ?_
          rintro e w5 ⟨rfl, hb5⟩
          have hb5' := hbc.trans (hb5.mono hbc.size)
          have C2 := earlier_v b a 19 cap A w5 HB.out HA.out (by omega)
          rw [show earV 19 b a = some j from (by unfold earV; rw [if_pos rfl]; exact HE2.out), show erv (some j) = (.tuple #[.int .i64 (j : Int), .bool true] : Value) from rfl] at C2
          have CC2 := Lib.hid C2
          have rm5 := (K3.out w5 hb5').2.2.1
          have rb5 := (K3.out w5 hb5').2.2.2.1
          have HB5 := Lib.hid hb5'
          clear C2 rm rb hb5 hb5' CC1
          go_wp2_with (first | (refine load_B rfl (.tmp 3) rfl w.heap.size rfl 23 a rm5 HA.out ?_) | (refine load_B rfl (.tmp 4) rfl (w.heap.size + 1) rfl 23 b rb5 HB.out ?_))
          refine CC2.out.mono ?_
          rintro e w6 ⟨rfl, hb6⟩
          have HB6 := Lib.hid (HB5.out.trans (hb6.mono HB5.out.size))
          clear hb6 CC2 rm5 rb5 HB5
          go_wp2_with fail
          refine wp_region_noPanic ?_
          have h0 : Below w3.heap.size w3 w6.drew := HB6.out.drew
          refine wp_region_held_drew (S := fun ww => Below w3.heap.size w3 ww) (by kernel_rfl) h0 (fun _ => ?_)
          generalize w6.drew = V6 at *
          refine tk_move 0 156 (.tmp 8) (.slice (some ⟨g2, 0, none⟩) 19 19) rfl (by kernel_rfl) (by kernel_rfl) (by kernel_rfl) (fun _ _ _ _ h => h) rfl rfl rfl rfl h0 ?_
          simp only [Act.put, List.setIfInBounds_toArray, List.set_cons_zero, List.set_cons_succ]
          refine tk_move 1 157 (.tmp 13) (.int .i64 i) rfl (by kernel_rfl) (by kernel_rfl) (by kernel_rfl) (fun _ _ _ _ h => h) rfl rfl rfl rfl h0 ?_
          simp only [Act.put, List.setIfInBounds_toArray, List.set_cons_zero, List.set_cons_succ]
          refine tk_val 2 158 (.pointer (some ⟨g2, 0 + i, none⟩)) rfl (by kernel_rfl) (by kernel_rfl) (by kernel_rfl) (fun _ _ _ _ h => h) rfl rfl (fun _ _ => ev_index_int (.tmp 156) (.tmp 157) g2 0 19 19 i rfl rfl rfl hi) h0 ?_
          simp only [Act.put, List.setIfInBounds_toArray, List.set_cons_zero, List.set_cons_succ]
          refine tk_val 3 159 (.int .i64 (yi : Int)) rfl (by kernel_rfl) (by kernel_rfl) (by kernel_rfl) (fun _ _ _ _ h => h) rfl rfl (fun ww h => ev_load_int (.tmp 158) g2 (0 + i) _ rfl rfl (by rw [Nat.zero_add]; exact (KI.out ww h).2.1)) h0 ?_
          simp only [Act.put, List.setIfInBounds_toArray, List.set_cons_zero, List.set_cons_succ]
          refine tk_move 4 160 (.tmp 7) (.slice (some ⟨g1, 0, none⟩) 19 19) rfl (by kernel_rfl) (by kernel_rfl) (by kernel_rfl) (fun _ _ _ _ h => h) rfl rfl rfl rfl h0 ?_
          simp only [Act.put, List.setIfInBounds_toArray, List.set_cons_zero, List.set_cons_succ]
          refine tk_move 5 161 (.tmp 13) (.int .i64 i) rfl (by kernel_rfl) (by kernel_rfl) (by kernel_rfl) (fun _ _ _ _ h => h) rfl rfl rfl rfl h0 ?_
          simp only [Act.put, List.setIfInBounds_toArray, List.set_cons_zero, List.set_cons_succ]
          refine tk_val 6 162 (.pointer (some ⟨g1, 0 + i, none⟩)) rfl (by kernel_rfl) (by kernel_rfl) (by kernel_rfl) (fun _ _ _ _ h => h) rfl rfl (fun _ _ => ev_index_int (.tmp 160) (.tmp 161) g1 0 19 19 i rfl rfl rfl hi) h0 ?_
          simp only [Act.put, List.setIfInBounds_toArray, List.set_cons_zero, List.set_cons_succ]
          refine tk_val 7 163 (.int .i64 (xi : Int)) rfl (by kernel_rfl) (by kernel_rfl) (by kernel_rfl) (fun _ _ _ _ h => h) rfl rfl (fun ww h => ev_load_int (.tmp 162) g1 (0 + i) _ rfl rfl (by rw [Nat.zero_add]; exact (KI.out ww h).1)) h0 ?_
          simp only [Act.put, List.setIfInBounds_toArray, List.set_cons_zero, List.set_cons_succ]
          refine tk_val 8 164 (.bool true) rfl (by kernel_rfl) (by kernel_rfl) (by kernel_rfl) (fun _ _ _ _ h => h) rfl rfl (fun _ _ => ev_lss_int (.tmp 159) (.tmp 163) yi xi true rfl rfl rfl (decide_eq_true (by omega))) h0 ?_
          simp only [Act.put, List.setIfInBounds_toArray, List.set_cons_zero, List.set_cons_succ]
          refine tk_move 9 165 (.tmp 164) (.bool true) rfl (by kernel_rfl) (by kernel_rfl) (by kernel_rfl) (fun _ _ _ _ h => h) rfl rfl rfl rfl h0 ?_
          simp only [Act.put, List.setIfInBounds_toArray, List.set_cons_zero, List.set_cons_succ]
          refine tkw_val 10 166 (.slice (some ⟨g1, 0, none⟩) 19 19) rfl (by kernel_rfl) (by kernel_rfl) (by kernel_rfl) (fun _ _ _ _ h => h) (by kernel_rfl) rfl (fun _ _ => ev_move (.tmp 7) (.slice (some ⟨g1, 0, none⟩) 19 19) rfl rfl) h0 ?_
          simp only [Act.put, List.setIfInBounds_toArray, List.set_cons_zero, List.set_cons_succ]
          refine tkw_val 11 167 (.int .i64 j) rfl (by kernel_rfl) (by kernel_rfl) (by kernel_rfl) (fun _ _ _ _ h => h) (by kernel_rfl) rfl (fun _ _ => ev_move (.tmp 15) (.int .i64 j) rfl rfl) h0 ?_
          simp only [Act.put, List.setIfInBounds_toArray, List.set_cons_zero, List.set_cons_succ]
          refine tkw_val 12 168 (.pointer (some ⟨g1, 0 + j, none⟩)) rfl (by kernel_rfl) (by kernel_rfl) (by kernel_rfl) (fun _ _ _ _ h => h) (by kernel_rfl) rfl (fun _ _ => ev_index_int (.tmp 166) (.tmp 167) g1 0 19 19 j rfl rfl rfl hj) h0 ?_
          simp only [Act.put, List.setIfInBounds_toArray, List.set_cons_zero, List.set_cons_succ]
          refine tkw_val 13 169 (.int .i64 (xj : Int)) rfl (by kernel_rfl) (by kernel_rfl) (by kernel_rfl) (fun _ _ _ _ h => h) (by kernel_rfl) rfl (fun ww h => ev_load_int (.tmp 168) g1 (0 + j) _ rfl rfl (by rw [Nat.zero_add]; exact (KI.out ww h).2.2.1)) h0 ?_
          simp only [Act.put, List.setIfInBounds_toArray, List.set_cons_zero, List.set_cons_succ]
          refine tkw_val 14 170 (.slice (some ⟨g2, 0, none⟩) 19 19) rfl (by kernel_rfl) (by kernel_rfl) (by kernel_rfl) (fun _ _ _ _ h => h) (by kernel_rfl) rfl (fun _ _ => ev_move (.tmp 8) (.slice (some ⟨g2, 0, none⟩) 19 19) rfl rfl) h0 ?_
          simp only [Act.put, List.setIfInBounds_toArray, List.set_cons_zero, List.set_cons_succ]
          refine tkw_val 15 171 (.int .i64 j) rfl (by kernel_rfl) (by kernel_rfl) (by kernel_rfl) (fun _ _ _ _ h => h) (by kernel_rfl) rfl (fun _ _ => ev_move (.tmp 15) (.int .i64 j) rfl rfl) h0 ?_
          simp only [Act.put, List.setIfInBounds_toArray, List.set_cons_zero, List.set_cons_succ]
          refine tkw_val 16 172 (.pointer (some ⟨g2, 0 + j, none⟩)) rfl (by kernel_rfl) (by kernel_rfl) (by kernel_rfl) (fun _ _ _ _ h => h) (by kernel_rfl) rfl (fun _ _ => ev_index_int (.tmp 170) (.tmp 171) g2 0 19 19 j rfl rfl rfl hj) h0 ?_
          simp only [Act.put, List.setIfInBounds_toArray, List.set_cons_zero, List.set_cons_succ]
          refine tkw_val 17 173 (.int .i64 (yj : Int)) rfl (by kernel_rfl) (by kernel_rfl) (by kernel_rfl) (fun _ _ _ _ h => h) (by kernel_rfl) rfl (fun ww h => ev_load_int (.tmp 172) g2 (0 + j) _ rfl rfl (by rw [Nat.zero_add]; exact (KI.out ww h).2.2.2)) h0 ?_
          simp only [Act.put, List.setIfInBounds_toArray, List.set_cons_zero, List.set_cons_succ]
          refine tkw_val 18 174 (.bool true) rfl (by kernel_rfl) (by kernel_rfl) (by kernel_rfl) (fun _ _ _ _ h => h) (by kernel_rfl) rfl (fun _ _ => ev_lss_int (.tmp 169) (.tmp 173) xj yj true rfl rfl rfl (decide_eq_true (by omega))) h0 ?_
          simp only [Act.put, List.setIfInBounds_toArray, List.set_cons_zero, List.set_cons_succ]
          refine tk_val 19 175 (.bool true) rfl (by kernel_rfl) (by kernel_rfl) (by kernel_rfl) (fun _ _ _ _ h => h) rfl rfl (fun _ _ => ev_pick_t (.tmp 165) (.tmp 174) (.const (.bool false)) _ rfl rfl rfl) h0 ?_
          simp only [Act.put, List.setIfInBounds_toArray, List.set_cons_zero, List.set_cons_succ]
          refine tk_assign 20 6 (.tmp 175) (.bool true) rfl (by kernel_rfl) (by kernel_rfl) (by kernel_rfl) (fun _ _ _ _ h => h) rfl rfl rfl rfl h0 ?_
          simp only [Act.put, List.setIfInBounds_toArray, List.set_cons_zero, List.set_cons_succ]
          refine wpAnyH_done (by kernel_rfl) (NoPanic.normal ?_) _
          have HX := Lib.hid h0
          clear h0
          go_wp2_with fail
          go_ret
          exact ⟨rfl, (K3.out _ HX.out).2.2.2.2⟩
        · have HO1 := Lib.hid (show earV n a b = none from by
            unfold earV
            by_cases h19 : n = 19
            · rw [if_pos h19]
              have : dgl a = dgl b := by
                by_cases h : dgl a = dgl b
                · exact h
                · exact absurd ⟨h19, h⟩ hns
              rw [this, ear_self]
            · rw [if_neg h19])
          have HO2 := Lib.hid (show earV n b a = none from by
            unfold earV
            by_cases h19 : n = 19
            · rw [if_pos h19]
              have : dgl a = dgl b := by
                by_cases h : dgl a = dgl b
                · exact h
                · exact absurd ⟨h19, h⟩ hns
              rw [this, ear_self]
            · rw [if_neg h19])
          have HNS := Lib.hid hns
          clear hns
          have C1 := earlier_v a b n cap A wc HA.out HB.out (by omega)
          rw [show earV n a b = none from HO1.out, show erv (none) = (.tuple #[.int .i64 0, .bool false] : Value) from rfl] at C1
          have CC1 := Lib.hid C1
          have rm := (K3.out wc hbc).2.2.1
          have rb := (K3.out wc hbc).2.2.2.1
          clear C1
          go_wp2_with (first | (refine load_B rfl (.tmp 3) rfl w.heap.size rfl 23 a rm HA.out ?_) | (refine load_B rfl (.tmp 4) rfl (w.heap.size + 1) rfl 23 b rb HB.out ?_))
          refine CC1.out.mono ?_
          rintro e w5 ⟨rfl, hb5⟩
          have hb5' := hbc.trans (hb5.mono hbc.size)
          have C2 := earlier_v b a n cap A w5 HB.out HA.out (by omega)
          rw [show earV n b a = none from HO2.out, show erv (none) = (.tuple #[.int .i64 0, .bool false] : Value) from rfl] at C2
          have CC2 := Lib.hid C2
          have rm5 := (K3.out w5 hb5').2.2.1
          have rb5 := (K3.out w5 hb5').2.2.2.1
          have HB5 := Lib.hid hb5'
          clear C2 rm rb hb5 hb5' CC1
          go_wp2_with (first | (refine load_B rfl (.tmp 3) rfl w.heap.size rfl 23 a rm5 HA.out ?_) | (refine load_B rfl (.tmp 4) rfl (w.heap.size + 1) rfl 23 b rb5 HB.out ?_))
          refine CC2.out.mono ?_
          rintro e w6 ⟨rfl, hb6⟩
          have HB6 := Lib.hid (HB5.out.trans (hb6.mono HB5.out.size))
          clear hb6 CC2 rm5 rb5 HB5
          by_cases h19 : n = 19
          · have hsb : sb = true := by
              rw [← HDD.out]
              apply decide_eq_true
              by_cases h : dgl a = dgl b
              · exact h
              · exact absurd ⟨h19, h⟩ HNS.out
            subst hsb
            have hq : ((n : Int) != 19) = false := by rw [h19]; rfl
            clear h19
            go_wp2_with fail
            go_ret
            exact ⟨rfl, (K3.out _ HB6.out).2.2.2.2⟩
          · have hq : ((n : Int) != 19) = true := by
              have : ¬ ((n : Int) = 19) := by omega
              simpa using this
            go_wp2_with fail
            go_ret
            exact ⟨rfl, (K3.out _ HB6.out).2.2.2.2⟩
end Go.Proofs.YtllkkafajchioaaDoor
