/- Keys: everything that is hashed from the elements to the root, in memory. -/
import Derived.Test.YteicbdjennjcdaaDoorW32
namespace Go.Proofs.YteicbdjennjcdaaDoor
set_option maxRecDepth 100000
open Go.RowKit

/-- two own rows lie apart -/
def Ap (v e : Value) : Prop := ∀ g, v.ownBlock = some g → e.ownBlock ≠ some g
theorem Ap.next {w : World} {v v' e : Value} (h : Ap v e) (he : ∀ g, e.ownBlock = some g → g < w.heap.size) (hn : Next w v v') : Ap v' e := fun g hg he' => by
  rcases hn with e1 | ⟨g', e1, hg'⟩
  · exact h g (e1.symm.trans hg) he'
  · rw [e1] at hg; injection hg with hg; subst hg; have := he _ he'; omega
theorem Ap.symm {v e : Value} (h : Ap v e) : Ap e v := fun g hg hv => h g hv hg
theorem app_B {ops : Array Oper} {rest : List Oper} {o : Oper} {a : Act} {Q : Exit → Act → World → Prop} {w : World} (hgd : o.guard = none) (s x : Operand)
    (ho : o.op = .call { callee := .builtin .append, args := #[s, x], argTypes := #[62, 62] })
    (base g n : Nat) (t : TypeId) (v : Value) (l l2 : List UInt8) (hs : a.eval s = v) (hx : a.eval x = .slice (some ⟨g, 0, none⟩) n n) (hn : l2.length = n) (hown : Own w base v l) (hsrc : RowB w g t l2)
    (hlen : l.length + n ≤ 1000000) (hbase : base ≤ w.heap.size)
    (h : ∀ v' w', Own w' base v' (l ++ l2) → Grown w w' v → Next w v v' → wpList Tryd.prog ops Q rest (a.put o.dst v') w') : wpList Tryd.prog ops Q (o :: rest) a w := by
  refine wpList_plain hgd fun K hK => ?_
  obtain ⟨i, hi, hz0, hz1, hz2⟩ := info_parts info_u8
  subst hn
  obtain ⟨v', w', hrun, h1, h2, _, h4⟩ := run_append_own_at (P := Tryd.prog) (w := w) base 62 o.type 5 i (.int .u8 0) 1 1 Tryd.underlying62 hi hz0 hz1 hz2 rfl (by omega) v l.length (U l) hown
    ⟨g, 0, none⟩ l2.length l2.length (U l2) (by rw [U_length, Nat.mul_one]) (fun j u hu => by
      rw [Go.WideShapes.add_plain, Nat.zero_add, cell_of_row w g j _ _ _ hsrc]
      simpa using hu) (U_one l2) (by simp only [maxLen]; omega) (by omega) hbase
  have h1' : Own w' base v' (l ++ l2) := by
    unfold Own
    rw [List.length_append, U_append]
    exact h1
  have := hK _ _ (h v' w' h1' h2 (h4.elim .inl fun e => .inr ⟨_, e, Nat.le_refl _⟩))
  unfold Oper.wp
  simp [execOp, ho, resolve, invoke, builtin, hs, hx, hrun, Result.andThen]
  exact this
theorem Own.lt {w : World} {b : Nat} {v : Value} {l : List UInt8} (h : Own w b v l) : ∀ g, v.ownBlock = some g → b ≤ g ∧ g < w.heap.size := fun g hg => World.ownsRow.lt h g hg
theorem endsS_succ (C : List (List UInt8)) (D : List Nat) (k d : Nat) (x : List UInt8) (hx : C[k]? = some x) (hd : D[k]? = some d) : (endsS C D (k + 1)).flatten = (endsS C D k).flatten ++ sn (3 - d) x := by
  have e : (lft D)[k]? = some (3 - d) := by rw [lft, List.getElem?_map, hd]; rfl
  rw [endsS, rc_at C (lft D) k (3 - d) x hx e, List.flatten_append]
  simp [endsS]
theorem ends_len (C : List (List UInt8)) (D : List Nat) (hC : ∀ x ∈ C, x.length = 32) (k : Nat) (hk : k ≤ C.length) : (endsS C D k).flatten.length = 32 * k := by
  unfold endsS
  rw [flat_len32 _ (rc_dig C (lft D) hC k hk), rc_len]

/-- what an append to the list of steps leaves beside it -/
theorem step_frame {B base B3 : Nat} {w0 wr wn w9 : World} {v v9 e : Value} {E0 z : List UInt8} {L : List Step} {t : TypeId} (hbn : Below wr.heap.size wr wn) (hg : Grown wn w9 v) (hn : v9.ownBlock = v.ownBlock ∨ v9.ownBlock = some wn.heap.size) (hE : Own wr base e E0) (hAp : Ap v e)
    (hAv : ∀ g, v.ownBlock = some g → g ≠ B3) (hR : RowB wr B3 t z) (hB : Below B w0 wr) (hO : OwnS wn base v L) (hb : B ≤ base) (hBw : B ≤ wr.heap.size) :
    Own w9 base e E0 ∧ Ap v9 e ∧ (∀ g, v9.ownBlock = some g → g ≠ B3) ∧ RowB w9 B3 t z ∧ Below B w0 w9 := by
  have hEl := hE.lt
  have hnx : Next wn v v9 := hn.elim .inl fun h => .inr ⟨_, h, Nat.le_refl _⟩
  refine ⟨hE.kept fun g hg' => ?_, hAp.next (fun g hg' => Nat.lt_of_lt_of_le (hEl g hg').2 hbn.size) hnx, fun g hg' => ?_, hR.keep ?_, ?_⟩
  · exact (hg.keep (Nat.lt_of_lt_of_le (hEl g hg').2 hbn.size) (hAp.symm g hg')).trans (hbn.block g (hEl g hg').2)
  · rcases hn with h | h
    · exact hAv g (h.symm.trans hg')
    · rw [h] at hg'
      injection hg' with hg'
      have := hR.lt
      have := hbn.size
      omega
  · exact (hg.keep (Nat.lt_of_lt_of_le hR.lt hbn.size) (fun h => hAv _ h rfl)).trans (hbn.block _ hR.lt)
  · exact below_ownS (hB.trans (hbn.mono hBw)) hg hO hb (Nat.le_trans hBw hbn.size)

set_option maxHeartbeats 6400000 in
theorem way_all (f : Nat) (hf : f = 1099511627776) (C : List (List UInt8)) (cA : Option Addr) (cc : Nat) (D : List Nat) (g0 : Nat) (t0 : TypeId) (i n : Nat) (P : List (List UInt8)) (pA : Option Addr) (pc : Nat) (w : World) (hC : C.length = 19) (hD : D.length = 19) (hD3 : ∀ d ∈ D, d ≤ 3) (hi : i < n) (hn : n ≤ 1000)
    (hp : P.length = stp f i n) (hpl : P.length ≤ 100) (hc : DL w (· < w.heap.size) C cA cc) (hg0 : RowN w g0 t0 D) (hpd : DL w (· < w.heap.size) P pA pc) (hk : KR w Kt) :
    Calls Tryd.prog 26 #[.slice cA 19 cc, .slice (some ⟨g0, 0, none⟩) 19 19, .int .i64 i, .int .i64 n, .slice pA P.length pc] w fun e w' => ∃ v', e = .returned v' ∧ OwnS w' w.heap.size v' (wayS f C D i n P) ∧ Below w.heap.size w w' := by
  have HC := Lib.hid hc
  have HCL := Lib.hid hC
  have HDL := Lib.hid hD
  have HD3 := Lib.hid hD3
  have HG := Lib.hid hg0
  have HPD := Lib.hid hpd
  have HP := Lib.hid hp
  have HKR := Lib.hid hk
  have HF := Lib.hid hf
  have hlt0 := hk.lt
  have hltg := hg0.lt
  obtain ⟨cb, co, rfl, hcb, _⟩ := hc.2.2.2.2 (by omega)
  have hccap : 19 ≤ cc := by have := hc.1; omega
  have ON : Hid (OwnS w w.heap.size (.slice none 0 0) (chainsS C D 0)) := Lib.hid (OwnS.nil _ _)
  have OE : Hid (Own w w.heap.size (.slice none 0 0) (endsS C D 0).flatten) := Lib.hid (Own.nil _ _)
  clear hc hC hD hD3 hg0 hpd hp hk hf
  go_enter Tryd.func26, Tryd.ntmps26
  go_wp2_with fail
  go_loopw [11, 12, 18] (fun v e y wr => ∃ (k : Nat), y = .int .i64 k ∧ k ≤ 19 ∧ Hid (OwnS wr w.heap.size v (chainsS C D k)) ∧ Hid (Own wr w.heap.size e (endsS C D k).flatten) ∧ Hid (Ap v e) ∧ Hid (Below w.heap.size w wr)) (fun _ _ y _ => 19 - (intOf y).toNat)
  case atStart => exact ⟨0, rfl, by omega, ON, OE, Lib.hid (fun g hg => by cases hg), Lib.hid (Below.refl _ _)⟩
  case round =>
    obtain ⟨k, rfl, hk19, HO, HE, HAp, HB⟩ := hrel
    have hz := HB.out.size
    by_cases hlt : k < 19
    · have b1 : (k : Int) < 19 := by omega
      obtain ⟨x, hx⟩ : ∃ x, C[k]? = some x := ⟨_, List.getElem?_eq_getElem (by rw [HCL.out]; exact hlt)⟩
      obtain ⟨d, hd⟩ : ∃ d, D[k]? = some d := ⟨_, List.getElem?_eq_getElem (by rw [HDL.out]; exact hlt)⟩
      have hd3 := HD3.out d (List.mem_of_getElem? hd)
      have HX := Lib.hid (HC.out.2.2.2.1 x (List.mem_of_getElem? hx))
      have HCD := Lib.hid (show ∀ ww, Below w.heap.size w ww → ww.cell? ⟨g0, k, none⟩ = some (.int .i64 (d : Int)) from fun ww h => (h.cell (p := ⟨g0, k, none⟩) hltg).trans (HG.out.cell hd))
      have hrx : wr.rangeAt cb (co + k * 32) (U x) := by
        obtain ⟨b', o', e', _, hc'⟩ := HC.out.2.2.2.2 (by rw [HCL.out]; omega)
        injection e' with e'
        injection e' with i1 i2
        subst i1 i2
        exact fun j u hu => (World.cell?_of_block (HB.out.block _ hcb)).trans (hc' k x hx j u hu)
      have HS1 := Lib.hid (show chainsS C D (k + 1) = chainsS C D k ++ chainS x d 3 by rw [chainsS_succ, List.getD_eq_getElem?_getD, List.getD_eq_getElem?_getD, hx, hd]; rfl)
      have HE1 := Lib.hid (endsS_succ C D k d x hx hd)
      have HEL := Lib.hid (ends_len C D HC.out.2.2.2.1 k (by rw [HCL.out]; omega))
      have HSL := Lib.hid (chainsS_len C D k)
      obtain ⟨L0, hL0⟩ : ∃ L0, chainsS C D k = L0 := ⟨_, rfl⟩
      obtain ⟨E0, hE0⟩ : ∃ E0, (endsS C D k).flatten = E0 := ⟨_, rfl⟩
      rw [hL0] at HO HS1 HSL
      rw [hE0] at HE HE1 HEL
      clear hx hd hL0 hE0
      have n0 := newD0 wr
      have HN := Lib.hid (newD wr x)
      go_upto_region 6 with (first
        | (refine load_D rfl (.tmp 21) rfl cb (co + k * 32) x rfl hrx HX.out ?_)
        | (refine store_B rfl (.tmp 14) (.tmp 22) rfl wr.heap.size (flb 32 []) x rfl rfl 23 n0 HX.out (by simp [flb]) ?_))
      generalize hW : World.setRow _ _ _ = w3
      obtain ⟨r3, hb3⟩ := HN.out w3 hW
      have HO3 := Lib.hid (HO.out.step hb3)
      have HE3 := Lib.hid (HE.out.below hb3 (Nat.le_refl _))
      have HB3 := Lib.hid (HB.out.trans (hb3.mono hz))
      have HGV := Lib.hid HO.out.lt
      have HGE := Lib.hid HE.out.lt
      obtain ⟨B3, hB3⟩ : ∃ B3, wr.heap.size = B3 := ⟨_, rfl⟩
      rw [hB3] at r3 hz HGV HGE ⊢
      have R3 := Lib.hid (show RowB w3 B3 23 (sn (0 - d) x) by rw [Nat.zero_sub]; exact r3)
      have ON0 : Hid (OwnS w3 w.heap.size u11 (L0 ++ chainS x d 0)) := Lib.hid (by rw [show chainS x d 0 = [] from rfl, List.append_nil]; exact HO3.out)
      have HAv := Lib.hid (show ∀ g, u11.ownBlock = some g → g ≠ B3 from fun g hg => by have := (HGV.out g hg).2; omega)
      have HAe := Lib.hid (show ∀ g, u12.ownBlock = some g → g ≠ B3 from fun g hg => by have := (HGE.out g hg).2; omega)
      clear hW HN n0 hrx hb3 HO r3 HO3 hB3 HB HE
      go_wp2_with fail
      go_loopw [11, 15] (fun v y wq => ∃ j : Nat, y = .int .i64 j ∧ j ≤ 3 ∧ Hid (OwnS wq w.heap.size v (L0 ++ chainS x d j)) ∧ Hid (Own wq w.heap.size u12 E0) ∧ Hid (Ap v u12) ∧ Hid (∀ g, v.ownBlock = some g → g ≠ B3) ∧ Hid (RowB wq B3 23 (sn (j - d) x)) ∧ Hid (Below w.heap.size w wq)) (fun _ y _ => 3 - (intOf y).toNat)
      case atStart => exact ⟨0, rfl, by omega, ON0, HE3, HAp, HAv, R3, HB3⟩
      case round =>
        obtain ⟨j, rfl, hj, HO, HE, HAp, HAv, HR, HB⟩ := hrel
        have hzq := HB.out.size
        have hltB := HR.out.lt
        have HSN := Lib.hid (sn_len (j - d) x HX.out)
        have HCL3 := Lib.hid (chainS_len x d j)
        by_cases hj3 : j < 3
        · have b2 : (j : Int) < 3 := by omega
          have cD := HCD.out wr HB.out
          by_cases hjd : j < d
          · have b3 : (j : Int) < d := by omega
            have HS2 := Lib.hid (show chainS x d (j + 1) = chainS x d j ++ [(ByteArray.empty, [])] by rw [chainS_succ, if_pos hjd])
            have hon := HO.out.step ((Below.refl _ _).alloc (Nat.le_refl _) (.cells (stC (ByteArray.empty, [])).toArray 78) : Below wr.heap.size wr _)
            have hsn : (wr.alloc (.cells (stC (ByteArray.empty, [])).toArray 78)).heap[wr.heap.size]? = some (.cells (stC (ByteArray.empty, [])).toArray 78 (0, 0)) := heap_alloc_new wr _
            have hbn : Below wr.heap.size wr (wr.alloc (.cells (stC (ByteArray.empty, [])).toArray 78)) := (Below.refl _ _).alloc (Nat.le_refl _) _
            have hzn : (wr.alloc (.cells (stC (ByteArray.empty, [])).toArray 78)).heap.size = wr.heap.size + 1 := by simp
            have HBN := Lib.hid hbn
            have HZN := Lib.hid hzn
            have HON := Lib.hid hon
            clear hbn hzn hon
            go_wp2_with (first
              | (refine bs_S rfl (.tmp 34) rfl (ByteArray.empty, []) rfl ?_; try simp only [Act.put, List.setIfInBounds_toArray, List.set_cons_zero, List.set_cons_succ])
              | (at_builtin; refine app_S rfl (.tmp 33) (.tmp 35) rfl w.heap.size wr.heap.size _ (L0 ++ chainS x d j) (ByteArray.empty, []) rfl rfl HON.out hsn (by rw [List.length_append, HSL.out, HCL3.out]; omega) (by rw [HZN.out]; omega) ?_; intro v9 w9 ho9 hg9 hn9; have HO9 := Lib.hid ho9; have HG9 := Lib.hid (show Grown _ w9 _ from hg9); have HN9 := Lib.hid hn9; clear ho9 hg9 hn9; try simp only [Act.put, List.setIfInBounds_toArray, List.set_cons_zero, List.set_cons_succ]))
            obtain ⟨f1, f2, f3, f4, f5⟩ := step_frame HBN.out HG9.out HN9.out HE.out HAp.out HAv.out HR.out HB.out HON.out (Nat.le_refl _) hzq
            have F1 := Lib.hid f1
            have F2 := Lib.hid f2
            have F3 := Lib.hid f3
            have F4 := Lib.hid (show RowB w9 B3 23 (sn (j + 1 - d) x) by rw [show j + 1 - d = j - d by omega]; exact f4)
            have F5 := Lib.hid f5
            have F6 := Lib.hid (show OwnS w9 w.heap.size v9 (L0 ++ chainS x d (j + 1)) by rw [HS2.out, ← List.append_assoc]; exact HO9.out)
            clear f1 f2 f3 f4 f5
            go_roundw
            case rel => exact ⟨j + 1, by go_num, by omega, F6, F1, F2, F3, F4, F5⟩
            case measure => simp [intOf]; omega
          · have b3 : ¬ (j : Int) < d := by omega
            obtain ⟨z, hz0⟩ : ∃ z, sn (j - d) x = z := ⟨_, rfl⟩
            have HZ1 := Lib.hid (show sn (j + 1 - d) x = sd z by rw [← hz0, show j + 1 - d = (j - d) + 1 by omega]; rfl)
            have HS2 := Lib.hid (show chainS x d (j + 1) = chainS x d j ++ [(stepT, z)] by rw [chainS_succ, if_neg hjd, hz0])
            rw [hz0] at HR HSN
            clear hz0
            have hsn : (wr.alloc (.cells (stC (stepT, z)).toArray 78)).heap[wr.heap.size]? = some (.cells (stC (stepT, z)).toArray 78 (0, 0)) := heap_alloc_new wr _
            have hbn : Below wr.heap.size wr (wr.alloc (.cells (stC (stepT, z)).toArray 78)) := (Below.refl _ _).alloc (Nat.le_refl _) _
            have hzn : (wr.alloc (.cells (stC (stepT, z)).toArray 78)).heap.size = wr.heap.size + 1 := by simp
            have HON := Lib.hid (HO.out.step hbn)
            have HBN := Lib.hid hbn
            have HZN := Lib.hid hzn
            have hcv := conv_str (HR.out.b32 HSN.out) HSN.out (by omega)
            clear hbn hzn
            go_wp2_with (first
              | (refine wl_val rfl (.agg #[.string stepT, .string ⟨z.toArray⟩]) (ev_buildS stepT (.tmp 39) _ rfl rfl) ?_; try simp only [Act.put, List.setIfInBounds_toArray, List.set_cons_zero, List.set_cons_succ])
              | (refine bs_S rfl (.tmp 40) rfl (stepT, z) rfl ?_; try simp only [Act.put, List.setIfInBounds_toArray, List.set_cons_zero, List.set_cons_succ])
              | (at_builtin; refine app_S rfl (.tmp 37) (.tmp 41) rfl w.heap.size wr.heap.size _ (L0 ++ chainS x d j) (stepT, z) rfl rfl HON.out hsn (by rw [List.length_append, HSL.out, HCL3.out]; omega) (by rw [HZN.out]; omega) ?_; intro v9 w9 ho9 hg9 hn9; have HO9 := Lib.hid ho9; have HG9 := Lib.hid (show Grown _ w9 _ from hg9); have HN9 := Lib.hid hn9; clear ho9 hg9 hn9; try simp only [Act.put, List.setIfInBounds_toArray, List.set_cons_zero, List.set_cons_succ]))
            obtain ⟨f1, f2, f3, f4, f5⟩ := step_frame HBN.out HG9.out HN9.out HE.out HAp.out HAv.out HR.out HB.out HON.out (Nat.le_refl _) hzq
            have F1 := Lib.hid f1
            have F2 := Lib.hid f2
            have F3 := Lib.hid f3
            have F4 := Lib.hid f4
            have F5 := Lib.hid f5
            have C := tagged_all stepT z (some ⟨B3, 0, none⟩) 32 w9 (by decide) (by rw [HSN.out]; omega) ((f4.b32 HSN.out).keep fun i hi => ⟨by subst hi; exact f4.lt, rfl⟩) (HKR.out.keep (f5.block 0 hlt0))
            rw [HSN.out] at C
            have CT := Lib.hid C
            clear f1 f2 f3 f4 f5 C
            refine CT.out.mono ?_
            rintro e w10 ⟨rfl, hb10⟩
            have r10 := F4.out.keep (hb10.block _ F4.out.lt)
            have G4 := Lib.hid (show RowB (w10.setRow B3 (U (sd z)).toArray) B3 23 (sn (j + 1 - d) x) by rw [HZ1.out]; exact r10.setRow (sd z))
            have G5 := Lib.hid (below_setRow (F5.out.trans (hb10.mono F5.out.size)) hz (U (sd z)).toArray)
            have G1 := Lib.hid (show Own (w10.setRow B3 (U (sd z)).toArray) w.heap.size u12 E0 from (F1.out.below hb10 (Nat.le_refl _)).kept fun g hg => setRow_keep _ _ _ _ (HAe.out g hg))
            have G6 := Lib.hid (show OwnS (w10.setRow B3 (U (sd z)).toArray) w.heap.size v9 (L0 ++ chainS x d (j + 1)) by
              rw [HS2.out, ← List.append_assoc]
              exact (HO9.out.step hb10).kept fun g hg => setRow_keep _ _ _ _ (F3.out g hg))
            clear hb10 CT
            go_wp2_with (refine store_B rfl (.tmp 14) (.tmp 44) rfl B3 z (sd z) rfl rfl 23 r10 (sd_len _) HSN.out ?_)
            go_roundw
            case rel => exact ⟨j + 1, by go_num, by omega, G6, G1, F2, F3, G4, G5⟩
            case measure => simp [intOf]; omega
        · obtain rfl : j = 3 := by omega
          have r3 := HR.out
          go_wp2_with (first
            | (at_builtin; refine app_B rfl (.tmp 45) (.tmp 46) rfl w.heap.size B3 32 23 _ E0 (sn (3 - d) x) rfl rfl HSN.out HE.out r3 (by rw [HEL.out]; omega) (by omega) ?_; intro v9 w9 ho9 hg9 hn9; have HO9 := Lib.hid ho9; have HG9 := Lib.hid hg9; have HN9 := Lib.hid hn9; clear ho9 hg9 hn9; try simp only [Act.put, List.setIfInBounds_toArray, List.set_cons_zero, List.set_cons_succ]))
          have F1 := Lib.hid (show OwnS w9 w.heap.size u11 (chainsS C D (k + 1)) by
            rw [HS1.out]
            exact HO.out.kept fun g hg => HG9.out.keep (HO.out.lt g hg).2 (HAp.out g hg))
          have F2 := Lib.hid (show Own w9 w.heap.size v9 (endsS C D (k + 1)).flatten by rw [HE1.out]; exact HO9.out)
          have F3 := Lib.hid (show Ap u11 v9 from (HAp.out.symm.next (fun g hg => (HO.out.lt g hg).2) HN9.out).symm)
          have F4 := Lib.hid (below_own HB.out HG9.out HE.out (Nat.le_refl _) hzq)
          clear r3
          go_roundw
          case rel => exact ⟨k + 1, by go_num, by omega, F1, F2, F3, F4⟩
          case measure => simp [intOf]; omega
    · obtain rfl : k = 19 := by omega
      have HEL := Lib.hid (ends_len C D HC.out.2.2.2.1 19 (by rw [HCL.out]; omega))
      have HSL := Lib.hid (chainsS_len C D 19)
      have HWS := Lib.hid (show wayS f C D i n P = chainsS C D 19 ++ [(publicT, (endsS C D 19).flatten)] ++ climbS f (pubk (endsS C D 19)) i n P from rfl)
      have HPK := Lib.hid (show tagd publicT.data.toList (endsS C D 19).flatten = pubk (endsS C D 19) from rfl)
      obtain ⟨L0, hL0⟩ : ∃ L0, chainsS C D 19 = L0 := ⟨_, rfl⟩
      obtain ⟨Y, hY⟩ : ∃ Y, (endsS C D 19).flatten = Y := ⟨_, rfl⟩
      rw [hL0] at HO HSL HWS
      rw [hY] at HE HEL HWS HPK
      clear hL0 hY
      obtain ⟨Ae, ce, rfl, hby⟩ := HE.out.byt
      have hcv := conv_str hby HEL.out (by omega)
      rw [HEL.out] at HE HAp ⊢
      clear hby
      have hsn : (wr.alloc (.cells (stC (publicT, Y)).toArray 78)).heap[wr.heap.size]? = some (.cells (stC (publicT, Y)).toArray 78 (0, 0)) := heap_alloc_new wr _
      have hbn : Below wr.heap.size wr (wr.alloc (.cells (stC (publicT, Y)).toArray 78)) := (Below.refl _ _).alloc (Nat.le_refl _) _
      have hzn : (wr.alloc (.cells (stC (publicT, Y)).toArray 78)).heap.size = wr.heap.size + 1 := by simp
      have HON := Lib.hid (HO.out.step hbn)
      have HBN := Lib.hid hbn
      have HZN := Lib.hid hzn
      clear hbn hzn
      go_wp2_with (first
        | (refine wl_val rfl (.agg #[.string publicT, .string ⟨Y.toArray⟩]) (ev_buildS publicT (.tmp 51) _ rfl rfl) ?_; try simp only [Act.put, List.setIfInBounds_toArray, List.set_cons_zero, List.set_cons_succ])
        | (refine bs_S rfl (.tmp 52) rfl (publicT, Y) rfl ?_; try simp only [Act.put, List.setIfInBounds_toArray, List.set_cons_zero, List.set_cons_succ])
        | (at_builtin; refine app_S rfl (.tmp 49) (.tmp 53) rfl w.heap.size wr.heap.size _ L0 (publicT, Y) rfl rfl HON.out hsn (by rw [HSL.out]; omega) (by rw [HZN.out]; omega) ?_; intro v9 w9 ho9 hg9 hn9; have HO9 := Lib.hid ho9; have HG9 := Lib.hid (show Grown _ w9 _ from hg9); have HN9 := Lib.hid hn9; clear ho9 hg9 hn9; try simp only [Act.put, List.setIfInBounds_toArray, List.set_cons_zero, List.set_cons_succ]))
      have hE9 : Own w9 w.heap.size (.slice Ae 608 ce) Y := HE.out.kept fun g hg => (HG9.out.keep (Nat.lt_of_lt_of_le (HE.out.lt g hg).2 HBN.out.size) (HAp.out.symm g hg)).trans (HBN.out.block g (HE.out.lt g hg).2)
      have hB9 : Below w.heap.size w w9 := below_ownS (HB.out.trans (HBN.out.mono hz)) HG9.out HON.out (Nat.le_refl _) (Nat.le_trans hz HBN.out.size)
      have C := tagged_all publicT Y Ae ce w9 (by decide) (by rw [HEL.out]; omega) (own_dlw hE9) (HKR.out.keep (hB9.block 0 hlt0))
      rw [HEL.out, HPK.out] at C
      have CT := Lib.hid C
      have HB9 := Lib.hid hB9
      clear C hE9 hB9 hsn hcv
      refine CT.out.mono ?_
      rintro e w10 ⟨rfl, hb10⟩
      have ho10 := HO9.out.step hb10
      have hB10 := HB9.out.trans (hb10.mono HB9.out.size)
      have CC := Lib.hid (lclimb_all f (L0 ++ [(publicT, Y)]) v9 w.heap.size (pubk (endsS C D 19)) i n P pA pc w10 (pubk_len _) hi (by rw [HF.out]; omega) (by rw [HF.out]; omega) HP.out hlt0 (by rw [List.length_append, HSL.out]; simp; omega) ho10 hB10.size
        (HPD.out.keep fun j hj => ⟨⟨by have := hB10.size; omega, fun e => by have := (ho10.lt _ e).1; omega⟩, hB10.block j hj⟩) (HKR.out.keep (hB10.block 0 hlt0)))
      have HO10 := Lib.hid ho10
      have HB10 := Lib.hid hB10
      clear CT hb10 ho10 hB10
      go_wp2_with fail
      refine CC.out.mono ?_
      rintro e w11 ⟨v11, rfl, ho11, hg11, hn11⟩
      have HO11 := Lib.hid (show OwnS w11 w.heap.size v11 (wayS f C D i n P) by rw [HWS.out]; exact ho11)
      have HB11 := Lib.hid (below_ownS HB10.out hg11 HO10.out (Nat.le_refl _) HB10.out.size)
      clear CC ho11 hg11 hn11
      go_wp2_with fail
      go_ret
      exact ⟨v11, rfl, HO11.out, HB11.out⟩
end Go.Proofs.YteicbdjennjcdaaDoor
