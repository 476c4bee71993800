/- Digest: DigestClimbs. -/
import Derived.Test.YtgojodldnodjpaaDoorJU
import Derived.Test.YtgojodldnodjpaaDoorJS
import Derived.Deep.CutRange
import Derived.Deep.RegionHeld3
namespace Go.Proofs.YtgojodldnodjpaaDoor
open Go.ChangeShapes Go.WideShapes Go.ChangeAt Go.WideElems Go.RowKit

/-- a path has no more steps than the length has bits -/
theorem stp_log (f : Nat) : ∀ (k i n : Nat), n ≤ 2 ^ k → n ≤ 2 ^ 64 → stp f i n ≤ k := by
  induction f with
  | zero => intro k i n _ _; simp [stp]
  | succ f ih =>
    intro k i n h h3
    rw [stp]
    by_cases h1 : n ≤ 1
    · rw [if_pos h1]; omega
    rw [if_neg h1]
    obtain ⟨m, _, e, hk1, hk2, hk3⟩ := hf_spec n (by omega) h3
    have hmk : m < k := by
      rw [e] at hk1
      exact (Nat.pow_lt_pow_iff_right (by omega : 1 < 2)).1 (Nat.lt_of_lt_of_le hk1 h)
    obtain ⟨k', rfl⟩ : ∃ k', k = k' + 1 := ⟨k - 1, by omega⟩
    have hle : hf n ≤ 2 ^ k' := by rw [e]; exact Nat.pow_le_pow_right (by omega) (by omega)
    by_cases hi : i < hf n
    · rw [if_pos hi]; have := ih k' i (hf n) hle (by omega); omega
    · rw [if_neg hi]; have := ih k' (i - hf n) (n - hf n) (by omega) (by omega); omega

/-- what the law's region that appends to a path has made so far: the slice, the row of one digest, the box -/
structure CZ (W9 : World) (d : List UInt8) (vo : Option (Value × List (List UInt8))) (x y : Option Nat) (w : World) : Prop where
  below : Below W9.heap.size W9 w
  own : ∀ v L, vo = some (v, L) → OwnD w W9.heap.size v L
  row : ∀ g, x = some g → RowB w g 26 d ∧ W9.heap.size ≤ g
  box : ∀ g, y = some g → RowB w g 26 (flb 32 []) ∧ W9.heap.size ≤ g
  apart : ∀ v L g, vo = some (v, L) → (x = some g ∨ y = some g) → v.ownBlock ≠ some g
section
variable {W9 w w' : World} {d : List UInt8} {vo : Option (Value × List (List UInt8))} {x y : Option Nat}
theorem CZ.lt (h : CZ W9 d vo x y w) {g : Nat} (hg : x = some g ∨ y = some g) : g < w.heap.size := by
  rcases hg with hg | hg
  · exact (h.row g hg).1.lt
  · exact (h.box g hg).1.lt
theorem CZ.step (h : CZ W9 d vo x y w) (hb : Below w.heap.size w w') : CZ W9 d vo x y w' :=
  ⟨h.below.trans (hb.mono h.below.size), fun v L e => (h.own v L e).step hb, fun g e => ⟨(h.row g e).1.keep (hb.block _ (h.row g e).1.lt), (h.row g e).2⟩, fun g e => ⟨(h.box g e).1.keep (hb.block _ (h.box g e).1.lt), (h.box g e).2⟩, h.apart⟩
theorem CZ.base (W9 : World) (d : List UInt8) : CZ W9 d none none none W9.drew :=
  ⟨(Below.refl _ _).drew, (fun _ _ e => nomatch e), (fun _ e => nomatch e), (fun _ e => nomatch e), (fun _ _ _ e _ => nomatch e)⟩
theorem CZ.nil (h : CZ W9 d none x y w) : CZ W9 d (some (.slice (some ⟨w.heap.size, 0, none⟩) 0 0, [])) x y (w.alloc (.cells #[] 26)) := by
  have hs := h.step ((Below.refl w.heap.size w).alloc (Nat.le_refl _) (.cells #[] 26))
  refine ⟨hs.below, fun v L e => ?_, hs.row, hs.box, fun v L g e hg => ?_⟩
  · injection e with e; injection e with e1 e2; subst e1 e2; exact (nilD w).low h.below.size
  · injection e with e; injection e with e1 e2; subst e1 e2
    intro e
    have hl := h.lt hg
    injection e with e
    subst e
    exact absurd hl (Nat.lt_irrefl _)
theorem CZ.mkrow (h : CZ W9 d vo none y w) : CZ W9 d vo (some w.heap.size) y (w.alloc (.cells (U d).toArray 26)) := by
  have hs := h.step ((Below.refl w.heap.size w).alloc (Nat.le_refl _) (.cells (U d).toArray 26))
  refine ⟨hs.below, hs.own, fun g e => ?_, hs.box, fun v L g e hg => ?_⟩
  · injection e with e; subst e; exact ⟨heap_alloc_new w _, h.below.size⟩
  · rcases hg with hg | hg
    · injection hg with hg; subst hg; exact apart_new (h.own v L e)
    · exact h.apart v L g e (.inr hg)
theorem CZ.mkbox (h : CZ W9 d vo x none w) : CZ W9 d vo x (some w.heap.size) (w.alloc (.cells (U (flb 32 [])).toArray 26)) := by
  have hs := h.step ((Below.refl w.heap.size w).alloc (Nat.le_refl _) (.cells (U (flb 32 [])).toArray 26))
  refine ⟨hs.below, hs.own, hs.row, fun g e => ?_, fun v L g e hg => ?_⟩
  · injection e with e; subst e; exact ⟨heap_alloc_new w _, h.below.size⟩
  · rcases hg with hg | hg
    · exact h.apart v L g e (.inl hg)
    · injection hg with hg; subst hg; exact apart_new (h.own v L e)
theorem CZ.app {v v' : Value} {L L' : List (List UInt8)} (h : CZ W9 d (some (v, L)) x y w) (hO : OwnD w' W9.heap.size v' L') (hG : w.grownBy w' v.ownBlock) (hA : v'.ownBlock = v.ownBlock ∨ v'.ownBlock = some w.heap.size) : CZ W9 d (some (v', L')) x y w' := by
  refine ⟨below_ownD h.below hG (h.own v L rfl) (Nat.le_refl _) h.below.size, fun _ _ e => ?_, fun g e => ⟨(h.row g e).1.grown hG (h.apart v L g rfl (.inl e)), (h.row g e).2⟩, fun g e => ⟨(h.box g e).1.grown hG (h.apart v L g rfl (.inr e)), (h.box g e).2⟩, fun _ _ g e hg => ?_⟩
  · injection e with e; injection e with e1 e2; subst e1 e2; exact hO
  · injection e with e; injection e with e1 e2; subst e1 e2; exact apart_app (h.apart v L g rfl hg) hA (h.lt hg)
theorem CZ.fin {g : Nat} (h : CZ W9 d vo x (some g) w) (c : Array Value) : Below W9.heap.size W9 (w.setRow g c) := below_setRow h.below (h.box g rfl).2 c
end
theorem load_W {ops : Array Oper} {rest : List Oper} {o : Oper} {a : Act} {w : World} {Q : Exit → Act → World → Prop} (hw : Region.wanted o (yielded ops a.tmps) = true) (x : Operand) (ho : o.op = .load 26 x)
    (b ofs : Nat) (d : List UInt8) (hx : a.eval x = .pointer (some ⟨b, ofs, none⟩)) (h : w.rangeAt b ofs (U d)) (hd : d.length = 32)
    (hK : wpList Tryd.prog ops Q rest (a.put o.dst (.agg (U d).toArray)) w) : wpList Tryd.prog ops Q (o :: rest) a w :=
  BigFrame.wpList_want hw fun _ hk => wp_load_mid 26 x ho b ofs hx (U d) _ h Tryd.underlying26 rfl (by rw [sz32, U_length, hd]) (hk _ _ hK)
theorem enters_Climb : Enters Tryd.prog 22 := enters_of Tryd.func22 (by kernel_rfl) rfl

set_option maxRecDepth 100000 in
set_option maxHeartbeats 16000000 in
theorem climbs_all (l : List UInt8) (A : Option Addr) (cap : Nat) (w : World) (hl : Byt w (· < w.heap.size) l A cap) (hk : KR w Kt) :
    Calls Tryd.prog 6 #[.slice A l.length cap] w fun e w' => e = .returned (.bool true) ∧ Below w.heap.size w w' := by
  have HL := Lib.hid hl
  have HK := Lib.hid hk
  have hlt0 := hk.lt
  have S0 := Lib.hid (sane_all w hk)
  clear hl hk
  go_enter Tryd.func6, Tryd.ntmps6
  go_wp2_with fail
  refine S0.out.mono ?_
  rintro e w1 ⟨rfl, hb1⟩
  have hz1 := hb1.size
  have D0 := Lib.hid (digestsOf_all l A cap w1 (HL.out.keep fun i hi => ⟨by omega, hb1.block i hi⟩))
  have HB1 := Lib.hid hb1
  clear hb1 S0
  go_wp2_with fail
  refine D0.out.mono ?_
  rintro e w2 ⟨v, L, rfl, ho, hll, hb2⟩
  obtain ⟨A2, c2, rfl, hdl⟩ := ho.dl
  have hz2 := hb2.size
  have hn24 : L.length ≤ 24 := by omega
  have HB2 := Lib.hid (HB1.out.trans (hb2.mono hz1))
  have HDL := Lib.hid hdl
  have hcap := hdl.1
  have hcm := hdl.2.1
  have KEEP := Lib.hid (show ∀ ww, Below w2.heap.size w2 ww → DL ww (· < ww.heap.size) L A2 c2 ∧ KR ww Kt ∧ Below w.heap.size w ww from fun ww h => by
    have hs := h.size
    exact ⟨HDL.out.keep fun i hi => ⟨by omega, h.block i hi.2⟩, HK.out.keep ((h.block 0 (by omega)).trans (HB2.out.block 0 hlt0)), HB2.out.trans (h.mono (by omega))⟩)
  clear D0 HB1 ho hdl hb2 hll
  obtain ⟨F0, hF0⟩ : ∃ F0 : Nat, F0 = 1099511627776 := ⟨_, rfl⟩
  have hF1 : F0 ≤ 1099511627776 := by omega
  have hF2 : 1099511627776 ≤ F0 := by omega
  clear hF0
  have C3 := Lib.hid (tree_all F0 L A2 c2 w2 (by omega) (by omega) (KEEP.out _ (Below.refl _ _)).1 (KEEP.out _ (Below.refl _ _)).2.1)
  have CLM := Lib.hid (fun i d (hd : L[i]? = some d) => clm_pth F0 L i d (by omega) (by omega) hd)
  have TL := Lib.hid (show (tree F0 L).length = 32 from tree_len _ _)
  obtain ⟨T, hT⟩ : ∃ T, T = tree F0 L := ⟨_, rfl⟩
  rw [← hT] at C3 CLM TL
  clear hT
  go_wp2_with fail
  refine C3.out.mono ?_
  rintro e w3 ⟨rfl, hb3⟩
  have HB3 := Lib.hid hb3
  have hz3 := hb3.size
  have hn3 : RowB (w3.alloc (.cells (U (flb 32 [])).toArray 26)) w3.heap.size 26 (flb 32 []) := heap_alloc_new w3 _
  have hr4 := hn3.setRow T
  have hbz : Below w3.heap.size w3 ((w3.alloc (.cells (U (flb 32 [])).toArray 26)).setRow w3.heap.size (U T).toArray) := below_setRow ((Below.refl _ _).alloc (Nat.le_refl _) _) (Nat.le_refl _) _
  clear hb3 C3
  go_wp2_with (refine store_B rfl (.tmp 4) (.tmp 18) rfl w3.heap.size (flb 32 []) T rfl rfl 26 hn3 TL.out (by simp [flb]) ?_)
  generalize hW4 : World.setRow _ _ _ = W4
  have HR4 : Hid (RowB W4 w3.heap.size 26 T) := Lib.hid (by rw [← hW4]; exact hr4)
  have HB4 : Hid (Below w3.heap.size w3 W4) := Lib.hid (by rw [← hW4]; exact hbz)
  have hz4 : w3.heap.size < W4.heap.size := HR4.out.lt
  clear hn3 hr4 hbz hW4
  have KEEP2 := Lib.hid (show ∀ ww, Below W4.heap.size W4 ww → DL ww (· < ww.heap.size) L A2 c2 ∧ KR ww Kt ∧ RowB ww w3.heap.size 26 T ∧ Below w.heap.size w ww from fun ww h => by
    have hs := h.size
    have h3 : Below w3.heap.size w3 ww := HB4.out.trans (h.mono (by omega))
    have h2 : Below w2.heap.size w2 ww := HB3.out.trans (h3.mono (by omega))
    exact ⟨(KEEP.out ww h2).1, (KEEP.out ww h2).2.1, HR4.out.keep (h.block _ hz4), (KEEP.out ww h2).2.2⟩)
  clear KEEP HB2 HB3 HB4 HR4
  go_loopw [21] (fun x wr => ∃ i : Nat, i ≤ L.length ∧ x = .int .i64 i ∧ Below W4.heap.size W4 wr) (fun x _ => L.length - (intOf x).toNat)
  case atStart => exact ⟨0, Nat.zero_le _, rfl, Below.refl _ _⟩
  case round =>
    obtain ⟨i, hi, rfl, hb⟩ := hrel
    have HBR := Lib.hid hb
    have hzr := hb.size
    clear hb
    by_cases hlt : i < L.length
    · obtain ⟨bb, oo, rfl, hS2, hat⟩ := (KEEP2.out _ HBR.out).1.2.2.2.2 (by omega)
      obtain ⟨d, hd⟩ : ∃ d, L[i]? = some d := ⟨_, List.getElem?_eq_getElem hlt⟩
      have hrd := hat i d hd
      have HDd := Lib.hid ((KEEP2.out _ HBR.out).1.2.2.2.1 d (List.mem_of_getElem? hd))
      have hclm := CLM.out i d hd
      have hpl := pth_len F0 L i (by omega)
      have hp5 : stp F0 i L.length ≤ 5 := stp_log F0 5 i L.length (by omega) (by omega)
      have C7 := Lib.hid (fun ww (h : Below W4.heap.size W4 ww) => path_yes F0 L i (some ⟨bb, oo, none⟩) c2 ww (by omega) hF1 hlt (KEEP2.out _ h).1 (KEEP2.out _ h).2.1)
      rw [← hpl] at hp5
      obtain ⟨P, hP⟩ : ∃ P, P = pth F0 L i := ⟨_, rfl⟩
      rw [← hP] at hclm hpl hp5 C7
      have HPL := Lib.hid hpl
      have HCLM := Lib.hid hclm
      clear hP hclm hpl hat hd
      have hn6 : RowB (wr.alloc (.cells (U (flb 32 [])).toArray 26)) wr.heap.size 26 (flb 32 []) := heap_alloc_new wr _
      have hr6 := hn6.setRow d
      have hb6 : Below wr.heap.size wr ((wr.alloc (.cells (U (flb 32 [])).toArray 26)).setRow wr.heap.size (U d).toArray) := below_setRow ((Below.refl _ _).alloc (Nat.le_refl _) _) (Nat.le_refl _) _
      have HR6 := Lib.hid hr6
      have HB6 := Lib.hid hb6
      clear hr6 hb6
      have hi2 : (i : Int) < L.length := by omega
      go_wp2_with (first
        | (refine load_D rfl (.tmp 24) rfl bb (oo + i * 32) d rfl hrd HDd.out ?_)
        | (refine store_B rfl (.tmp 6) (.tmp 25) rfl wr.heap.size (flb 32 []) d rfl rfl 26 hn6 HDd.out (by simp [flb]) ?_))
      generalize hW6 : World.setRow _ _ _ = W6
      have R6 : Hid (RowB W6 wr.heap.size 26 d) := Lib.hid (by rw [← hW6]; exact HR6.out)
      have B6 : Hid (Below wr.heap.size wr W6) := Lib.hid (by rw [← hW6]; exact HB6.out)
      clear hW6 HR6 HB6 hn6 hrd
      have hz6 : wr.heap.size < W6.heap.size := R6.out.lt
      have BB6 := Lib.hid (HBR.out.trans (B6.out.mono HBR.out.size))
      refine (C7.out _ BB6.out).mono ?_
      rintro e w7 ⟨A3, c3, rfl, hop, hb7⟩
      obtain ⟨A3', c3', e3, hdp⟩ := hop.dl
      injection e3 with e3 _ e4
      subst e3 e4
      have hz7 := hb7.size
      have BB7 := Lib.hid (BB6.out.trans (hb7.mono BB6.out.size))
      have R7 := Lib.hid (R6.out.keep (hb7.block _ hz6))
      have HDP := Lib.hid hdp
      have C8 := Lib.hid (Climb_yes F0 d HDd.out i L.length P A3 c3 w7 hlt (by omega) hF1 (HDP.out.keep fun i hi => ⟨hi.2, rfl⟩) HPL.out (KEEP2.out _ BB7.out).2.1)
      rw [HCLM.out] at C8
      clear hop hdp hb7 C7 R6 B6 BB6
      go_wp2_with (refine load_D rfl (.tmp 6) rfl wr.heap.size 0 d rfl R7.out.range HDd.out ?_)
      refine C8.out.mono ?_
      rintro e w8 ⟨rfl, hb8⟩
      have hz8 := hb8.size
      have BB8 := Lib.hid (BB7.out.trans (hb8.mono BB7.out.size))
      have hn9 : RowB (w8.alloc (.cells (U (flb 32 [])).toArray 26)) w8.heap.size 26 (flb 32 []) := heap_alloc_new w8 _
      have HR9 := Lib.hid (hn9.setRow T)
      have HB9 : Hid (Below w8.heap.size w8 ((w8.alloc (.cells (U (flb 32 [])).toArray 26)).setRow w8.heap.size (U T).toArray)) := Lib.hid (below_setRow ((Below.refl _ _).alloc (Nat.le_refl _) _) (Nat.le_refl _) _)
      have R8 := Lib.hid (R7.out.keep (hb8.block _ (by omega)))
      have HDP8 := Lib.hid (HDP.out.keep (w' := w8) (S' := fun i => i < w7.heap.size) fun i hi => ⟨hi.2, hb8.block i hi.2⟩)
      clear hb8 C8 HDP R7
      go_upto_region 10 with (refine store_B rfl (.tmp 9) (.tmp 39) rfl w8.heap.size (flb 32 []) T rfl rfl 26 hn9 TL.out (by simp [flb]) ?_)
      generalize hW9 : World.setRow _ _ _ = W9
      have R9 : Hid (RowB W9 w8.heap.size 26 T) := Lib.hid (by rw [← hW9]; exact HR9.out)
      have B9 : Hid (Below w8.heap.size w8 W9) := Lib.hid (by rw [← hW9]; exact HB9.out)
      clear hW9 HR9 HB9 hn9
      have hz9 : w8.heap.size < W9.heap.size := R9.out.lt
      have BB9 := Lib.hid (BB8.out.trans (B9.out.mono BB8.out.size))
      have R69 := Lib.hid (R8.out.keep (B9.out.block _ (by omega)))
      have HDP9 := Lib.hid (HDP8.out.keep (w' := W9) (S' := fun i => i < W9.heap.size) fun i hi => ⟨by omega, B9.out.block i (by omega)⟩)
      clear R8 HDP8 B9
      go_cut [11, 12] from 41 to 54 (fun x y wx => ∃ g : Nat, x = .pointer (some ⟨g, 0, none⟩) ∧ y = .int .i64 1 ∧ Below W9.heap.size W9 wx)
      case first =>
        have hz69 : wr.heap.size < W9.heap.size := by omega
        have HDPW := Lib.hid (show ∀ ww, Below W9.heap.size W9 ww → DL ww (· < W9.heap.size) P A3 c3 from fun ww h => HDP9.out.keep fun i hi => ⟨hi, h.block i hi⟩)
        have CNO := Lib.hid (show ∀ (A' : Option Addr) (c' : Nat) (ww : World), Calls Tryd.prog 22 #[.agg (U d).toArray, .int .i64 i, .int .i64 L.length, .slice A' (([] ++ P : List (List UInt8)).length + [d].length) c'] ww fun e w' => e = .returned (.tuple #[.agg (U z32).toArray, .int .i64 1]) ∧ Below ww.heap.size ww w' from fun A' c' ww => by
          have h1 : (([] ++ P) ++ [d]).length = P.length + 1 := by simp
          have C := Climb_no F0 d HDd.out (i : Int) (L.length : Int) (([] ++ P) ++ [d]) A' c' ww hF1 (by rw [h1]; omega) (.inr (.inr (.inr (.inr ⟨by omega, by rw [h1]; have := HPL.out; simp only [Int.toNat_natCast]; omega⟩))))
          rwa [List.length_append] at C)
        have z0 := CZ.base W9 d
        refine wp_region_noPanic ?_
        refine wp_region_held_drew (S := fun ww => Below W9.heap.size W9 ww) (by kernel_rfl) z0.below (fun _ => ?_)
        revert z0; generalize World.drew W9 = v0; intro z0
        refine tk_load 0 42 (.tmp 6) wr.heap.size 0 d rfl (by kernel_rfl) (by kernel_rfl) (by kernel_rfl) (fun _ _ _ _ h => h) rfl rfl rfl rfl (fun w h => (R69.out.keep (h.block _ hz69)).range) HDd.out z0.below ?_
        simp only [Act.put, List.setIfInBounds_toArray, List.set_cons_zero, List.set_cons_succ]
        refine tk_move 1 43 (.tmp 5) (.int .i64 i) rfl (by kernel_rfl) (by kernel_rfl) (by kernel_rfl) (fun _ _ _ _ h => h) rfl rfl rfl rfl z0.below ?_
        simp only [Act.put, List.setIfInBounds_toArray, List.set_cons_zero, List.set_cons_succ]
        refine tk_move 2 44 (.tmp 3) (.slice (some ⟨bb, oo, none⟩) L.length c2) rfl (by kernel_rfl) (by kernel_rfl) (by kernel_rfl) (fun _ _ _ _ h => h) rfl rfl rfl rfl z0.below ?_
        simp only [Act.put, List.setIfInBounds_toArray, List.set_cons_zero, List.set_cons_succ]
        refine tk_val 3 45 (.int .i64 L.length) rfl (by kernel_rfl) (by kernel_rfl) (by kernel_rfl) (fun _ _ _ _ h => h) rfl rfl (fun w _ => ev_len (.tmp 44) _ _ _ rfl rfl) z0.below ?_
        simp only [Act.put, List.setIfInBounds_toArray, List.set_cons_zero, List.set_cons_succ]
        refine tk_move 5 47 (.tmp 7) (.slice A3 P.length c3) rfl (by kernel_rfl) (by kernel_rfl) (by kernel_rfl) (fun _ _ _ _ h => h) rfl rfl rfl rfl z0.below ?_
        simp only [Act.put, List.setIfInBounds_toArray, List.set_cons_zero, List.set_cons_succ]
        refine tk_load 7 49 (.tmp 6) wr.heap.size 0 d rfl (by kernel_rfl) (by kernel_rfl) (by kernel_rfl) (fun _ _ _ _ h => h) rfl rfl rfl rfl (fun w h => (R69.out.keep (h.block _ hz69)).range) HDd.out z0.below ?_
        simp only [Act.put, List.setIfInBounds_toArray, List.set_cons_zero, List.set_cons_succ]
        refine wpAnyH_ready (rs := [4, 8, 14]) (by kernel_rfl) (by simp) ?_
        refine AllReadyH.cons (o := _) rfl (fun K hK => ?_) (AllReadyH.cons (o := _) rfl (fun K hK => ?_) (AllReadyH.cons (o := _) rfl (fun K hK => ?_) AllReadyH.nil))
        · have z1 := z0.nil
          refine to_bs0 46 rfl rfl rfl (hK.out _ _ z1.below fun _ => ?_)
          revert z1; generalize World.alloc v0 _ = v2; intro z1
          simp only [Act.put, List.setIfInBounds_toArray, List.set_cons_zero, List.set_cons_succ]
          clear hK
          refine wpAnyH_ready (rs := [6, 8, 14]) (by kernel_rfl) (by simp) ?_
          refine AllReadyH.cons (o := _) rfl (fun K hK => ?_) (AllReadyH.cons (o := _) rfl (fun K hK => ?_) (AllReadyH.cons (o := _) rfl (fun K hK => ?_) AllReadyH.nil))
          · refine to_app 48 (.tmp 46) (.tmp 47) rfl rfl rfl W9.heap.size (.slice (some ⟨v0.heap.size, 0, none⟩) 0 0) (· < W9.heap.size) [] P A3 c3 rfl rfl (z1.own _ _ rfl) (HDPW.out _ z1.below) (by simp; omega) z1.below.size (fun A5 c6 v4 hO hG hA => ?_)
            have z3 := z1.app hO hG hA
            refine hK.out _ _ z3.below fun _ => ?_
            clear hO hG hA
            simp only [Act.put, List.setIfInBounds_toArray, List.set_cons_zero, List.set_cons_succ]
            clear hK
            refine wpAnyH_ready (rs := [8, 14]) (by kernel_rfl) (by simp) ?_
            refine AllReadyH.cons (o := _) rfl (fun K hK => ?_) (AllReadyH.cons (o := _) rfl (fun K hK => ?_) AllReadyH.nil)
            · have z7 := z3.mkrow
              refine to_bs1 50 (.tmp 49) d rfl rfl rfl rfl HDd.out (hK.out _ _ z7.below fun _ => ?_)
              revert z7; generalize World.alloc v4 _ = v8; intro z7
              simp only [Act.put, List.setIfInBounds_toArray, List.set_cons_zero, List.set_cons_succ]
              clear hK
              refine wpAnyH_ready (rs := [9, 14]) (by kernel_rfl) (by simp) ?_
              refine AllReadyH.cons (o := _) rfl (fun K hK => ?_) (AllReadyH.cons (o := _) rfl (fun K hK => ?_) AllReadyH.nil)
              · refine to_app 51 (.tmp 48) (.tmp 50) rfl rfl rfl W9.heap.size (.slice A5 (([] : List (List UInt8)).length + P.length) c6) (· = v4.heap.size) ([] ++ P) [d] (some ⟨v4.heap.size, 0, none⟩) 1 rfl rfl (z7.own _ _ rfl) (DL.one (z7.row _ rfl).1 HDd.out) (by simp; omega) z7.below.size (fun A11 c12 v10 hO hG hA => ?_)
                have z9 := z7.app hO hG hA
                refine hK.out _ _ z9.below fun _ => ?_
                clear hO hG hA
                simp only [Act.put, List.setIfInBounds_toArray, List.set_cons_zero, List.set_cons_succ]
                clear hK
                refine wpAnyH_ready (rs := [10, 14]) (by kernel_rfl) (by simp) ?_
                refine AllReadyH.cons (o := _) rfl (fun K hK => ?_) (AllReadyH.cons (o := _) rfl (fun K hK => ?_) AllReadyH.nil)
                · refine to_call 22 52 _ _ #[.agg (U d).toArray, .int .i64 i, .int .i64 L.length, (.slice A11 (([] ++ P : List (List UInt8)).length + [d].length) c12)] _ rfl rfl rfl rfl enters_Climb (CNO.out A11 c12 v10) (fun e v14 h5 => ⟨_, h5.1, ?_⟩)
                  have z13 := z9.step h5.2
                  refine hK.out _ _ z13.below fun _ => ?_
                  clear h5
                  simp only [Act.put, List.setIfInBounds_toArray, List.set_cons_zero, List.set_cons_succ]
                  clear hK
                  refine tk_move 11 41 (.tmp 52) (.tuple #[.agg (U z32).toArray, .int .i64 1]) rfl (by kernel_rfl) (by kernel_rfl) (by kernel_rfl) (fun _ _ _ _ h => h) rfl rfl rfl rfl z13.below ?_
                  simp only [Act.put, List.setIfInBounds_toArray, List.set_cons_zero, List.set_cons_succ]
                  refine tk_val 12 53 (.agg (U z32).toArray) rfl (by kernel_rfl) (by kernel_rfl) (by kernel_rfl) (fun _ _ _ _ h => h) rfl rfl (fun w _ => ev_extract (.tmp 41) 0 _ _ rfl rfl rfl) z13.below ?_
                  simp only [Act.put, List.setIfInBounds_toArray, List.set_cons_zero, List.set_cons_succ]
                  refine tk_val 13 54 (.int .i64 1) rfl (by kernel_rfl) (by kernel_rfl) (by kernel_rfl) (fun _ _ _ _ h => h) rfl rfl (fun w _ => ev_extract (.tmp 41) 1 _ _ rfl rfl rfl) z13.below ?_
                  simp only [Act.put, List.setIfInBounds_toArray, List.set_cons_zero, List.set_cons_succ]
                  refine wpAnyH_ready (rs := [14]) (by kernel_rfl) (by simp) ?_
                  refine AllReadyH.cons (o := _) rfl (fun K hK => ?_) AllReadyH.nil
                  · have z15 := z13.mkbox
                    refine to_alloc 11 rfl rfl rfl (hK.out _ _ z15.below fun _ => ?_)
                    revert z15; generalize World.alloc v14 _ = v16; intro z15
                    simp only [Act.put, List.setIfInBounds_toArray, List.set_cons_zero, List.set_cons_succ]
                    clear hK
                    refine wpAnyH_ready (rs := [15]) (by kernel_rfl) (by simp) ?_
                    refine AllReadyH.cons (o := _) rfl (fun K hK => ?_) AllReadyH.nil
                    · have z17 := z15.fin (U z32).toArray
                      refine to_store (.tmp 11) (.tmp 53) rfl rfl rfl v14.heap.size (flb 32 []) z32 rfl rfl (z15.box _ rfl).1 (by simp [flb]) rfl (hK.out _ _ z17 fun _ => ?_)
                      revert z17; generalize World.setRow v16 _ _ = v18; intro z17
                      clear hK
                      refine tk_assign 16 12 (.tmp 54) (.int .i64 1) rfl (by kernel_rfl) (by kernel_rfl) (by kernel_rfl) (fun _ _ _ _ h => h) rfl rfl rfl rfl z17 ?_
                      simp only [Act.put, List.setIfInBounds_toArray, List.set_cons_zero, List.set_cons_succ]
                      refine wpAnyH_done (by kernel_rfl) (NoPanic.normal ?_) _
                      have HE := Lib.hid z17
                      go_wp2_with fail
                      go_meet
                      exact ⟨_, rfl, rfl, HE.out⟩
                · have z19 := z9.mkbox
                  refine to_alloc 11 rfl rfl rfl (hK.out _ _ z19.below fun _ => ?_)
                  revert z19; generalize World.alloc v10 _ = v20; intro z19
                  simp only [Act.put, List.setIfInBounds_toArray, List.set_cons_zero, List.set_cons_succ]
                  clear hK
                  refine wpAnyH_ready (rs := [10]) (by kernel_rfl) (by simp) ?_
                  refine AllReadyH.cons (o := _) rfl (fun K hK => ?_) AllReadyH.nil
                  · refine to_call 22 52 _ _ #[.agg (U d).toArray, .int .i64 i, .int .i64 L.length, (.slice A11 (([] ++ P : List (List UInt8)).length + [d].length) c12)] _ rfl rfl rfl rfl enters_Climb (CNO.out A11 c12 v20) (fun e v22 h5 => ⟨_, h5.1, ?_⟩)
                    have z21 := z19.step h5.2
                    refine hK.out _ _ z21.below fun _ => ?_
                    clear h5
                    simp only [Act.put, List.setIfInBounds_toArray, List.set_cons_zero, List.set_cons_succ]
                    clear hK
                    refine tk_move 11 41 (.tmp 52) (.tuple #[.agg (U z32).toArray, .int .i64 1]) rfl (by kernel_rfl) (by kernel_rfl) (by kernel_rfl) (fun _ _ _ _ h => h) rfl rfl rfl rfl z21.below ?_
                    simp only [Act.put, List.setIfInBounds_toArray, List.set_cons_zero, List.set_cons_succ]
                    refine tk_val 12 53 (.agg (U z32).toArray) rfl (by kernel_rfl) (by kernel_rfl) (by kernel_rfl) (fun _ _ _ _ h => h) rfl rfl (fun w _ => ev_extract (.tmp 41) 0 _ _ rfl rfl rfl) z21.below ?_
                    simp only [Act.put, List.setIfInBounds_toArray, List.set_cons_zero, List.set_cons_succ]
                    refine tk_val 13 54 (.int .i64 1) rfl (by kernel_rfl) (by kernel_rfl) (by kernel_rfl) (fun _ _ _ _ h => h) rfl rfl (fun w _ => ev_extract (.tmp 41) 1 _ _ rfl rfl rfl) z21.below ?_
                    simp only [Act.put, List.setIfInBounds_toArray, List.set_cons_zero, List.set_cons_succ]
                    refine wpAnyH_ready (rs := [15]) (by kernel_rfl) (by simp) ?_
                    refine AllReadyH.cons (o := _) rfl (fun K hK => ?_) AllReadyH.nil
                    · have z23 := z21.fin (U z32).toArray
                      refine to_store (.tmp 11) (.tmp 53) rfl rfl rfl v10.heap.size (flb 32 []) z32 rfl rfl (z21.box _ rfl).1 (by simp [flb]) rfl (hK.out _ _ z23 fun _ => ?_)
                      revert z23; generalize World.setRow v22 _ _ = v24; intro z23
                      clear hK
                      refine tk_assign 16 12 (.tmp 54) (.int .i64 1) rfl (by kernel_rfl) (by kernel_rfl) (by kernel_rfl) (fun _ _ _ _ h => h) rfl rfl rfl rfl z23 ?_
                      simp only [Act.put, List.setIfInBounds_toArray, List.set_cons_zero, List.set_cons_succ]
                      refine wpAnyH_done (by kernel_rfl) (NoPanic.normal ?_) _
                      have HE := Lib.hid z23
                      go_wp2_with fail
                      go_meet
                      exact ⟨_, rfl, rfl, HE.out⟩
              · have z25 := z7.mkbox
                refine to_alloc 11 rfl rfl rfl (hK.out _ _ z25.below fun _ => ?_)
                revert z25; generalize World.alloc v8 _ = v26; intro z25
                simp only [Act.put, List.setIfInBounds_toArray, List.set_cons_zero, List.set_cons_succ]
                clear hK
                refine wpAnyH_ready (rs := [9]) (by kernel_rfl) (by simp) ?_
                refine AllReadyH.cons (o := _) rfl (fun K hK => ?_) AllReadyH.nil
                · refine to_app 51 (.tmp 48) (.tmp 50) rfl rfl rfl W9.heap.size (.slice A5 (([] : List (List UInt8)).length + P.length) c6) (· = v4.heap.size) ([] ++ P) [d] (some ⟨v4.heap.size, 0, none⟩) 1 rfl rfl (z25.own _ _ rfl) (DL.one (z25.row _ rfl).1 HDd.out) (by simp; omega) z25.below.size (fun A29 c30 v28 hO hG hA => ?_)
                  have z27 := z25.app hO hG hA
                  refine hK.out _ _ z27.below fun _ => ?_
                  clear hO hG hA
                  simp only [Act.put, List.setIfInBounds_toArray, List.set_cons_zero, List.set_cons_succ]
                  clear hK
                  refine wpAnyH_ready (rs := [10]) (by kernel_rfl) (by simp) ?_
                  refine AllReadyH.cons (o := _) rfl (fun K hK => ?_) AllReadyH.nil
                  · refine to_call 22 52 _ _ #[.agg (U d).toArray, .int .i64 i, .int .i64 L.length, (.slice A29 (([] ++ P : List (List UInt8)).length + [d].length) c30)] _ rfl rfl rfl rfl enters_Climb (CNO.out A29 c30 v28) (fun e v32 h5 => ⟨_, h5.1, ?_⟩)
                    have z31 := z27.step h5.2
                    refine hK.out _ _ z31.below fun _ => ?_
                    clear h5
                    simp only [Act.put, List.setIfInBounds_toArray, List.set_cons_zero, List.set_cons_succ]
                    clear hK
                    refine tk_move 11 41 (.tmp 52) (.tuple #[.agg (U z32).toArray, .int .i64 1]) rfl (by kernel_rfl) (by kernel_rfl) (by kernel_rfl) (fun _ _ _ _ h => h) rfl rfl rfl rfl z31.below ?_
                    simp only [Act.put, List.setIfInBounds_toArray, List.set_cons_zero, List.set_cons_succ]
                    refine tk_val 12 53 (.agg (U z32).toArray) rfl (by kernel_rfl) (by kernel_rfl) (by kernel_rfl) (fun _ _ _ _ h => h) rfl rfl (fun w _ => ev_extract (.tmp 41) 0 _ _ rfl rfl rfl) z31.below ?_
                    simp only [Act.put, List.setIfInBounds_toArray, List.set_cons_zero, List.set_cons_succ]
                    refine tk_val 13 54 (.int .i64 1) rfl (by kernel_rfl) (by kernel_rfl) (by kernel_rfl) (fun _ _ _ _ h => h) rfl rfl (fun w _ => ev_extract (.tmp 41) 1 _ _ rfl rfl rfl) z31.below ?_
                    simp only [Act.put, List.setIfInBounds_toArray, List.set_cons_zero, List.set_cons_succ]
                    refine wpAnyH_ready (rs := [15]) (by kernel_rfl) (by simp) ?_
                    refine AllReadyH.cons (o := _) rfl (fun K hK => ?_) AllReadyH.nil
                    · have z33 := z31.fin (U z32).toArray
                      refine to_store (.tmp 11) (.tmp 53) rfl rfl rfl v8.heap.size (flb 32 []) z32 rfl rfl (z31.box _ rfl).1 (by simp [flb]) rfl (hK.out _ _ z33 fun _ => ?_)
                      revert z33; generalize World.setRow v32 _ _ = v34; intro z33
                      clear hK
                      refine tk_assign 16 12 (.tmp 54) (.int .i64 1) rfl (by kernel_rfl) (by kernel_rfl) (by kernel_rfl) (fun _ _ _ _ h => h) rfl rfl rfl rfl z33 ?_
                      simp only [Act.put, List.setIfInBounds_toArray, List.set_cons_zero, List.set_cons_succ]
                      refine wpAnyH_done (by kernel_rfl) (NoPanic.normal ?_) _
                      have HE := Lib.hid z33
                      go_wp2_with fail
                      go_meet
                      exact ⟨_, rfl, rfl, HE.out⟩
            · have z35 := z3.mkbox
              refine to_alloc 11 rfl rfl rfl (hK.out _ _ z35.below fun _ => ?_)
              revert z35; generalize World.alloc v4 _ = v36; intro z35
              simp only [Act.put, List.setIfInBounds_toArray, List.set_cons_zero, List.set_cons_succ]
              clear hK
              refine wpAnyH_ready (rs := [8]) (by kernel_rfl) (by simp) ?_
              refine AllReadyH.cons (o := _) rfl (fun K hK => ?_) AllReadyH.nil
              · have z37 := z35.mkrow
                refine to_bs1 50 (.tmp 49) d rfl rfl rfl rfl HDd.out (hK.out _ _ z37.below fun _ => ?_)
                revert z37; generalize World.alloc v36 _ = v38; intro z37
                simp only [Act.put, List.setIfInBounds_toArray, List.set_cons_zero, List.set_cons_succ]
                clear hK
                refine wpAnyH_ready (rs := [9]) (by kernel_rfl) (by simp) ?_
                refine AllReadyH.cons (o := _) rfl (fun K hK => ?_) AllReadyH.nil
                · refine to_app 51 (.tmp 48) (.tmp 50) rfl rfl rfl W9.heap.size (.slice A5 (([] : List (List UInt8)).length + P.length) c6) (· = v36.heap.size) ([] ++ P) [d] (some ⟨v36.heap.size, 0, none⟩) 1 rfl rfl (z37.own _ _ rfl) (DL.one (z37.row _ rfl).1 HDd.out) (by simp; omega) z37.below.size (fun A41 c42 v40 hO hG hA => ?_)
                  have z39 := z37.app hO hG hA
                  refine hK.out _ _ z39.below fun _ => ?_
                  clear hO hG hA
                  simp only [Act.put, List.setIfInBounds_toArray, List.set_cons_zero, List.set_cons_succ]
                  clear hK
                  refine wpAnyH_ready (rs := [10]) (by kernel_rfl) (by simp) ?_
                  refine AllReadyH.cons (o := _) rfl (fun K hK => ?_) AllReadyH.nil
                  · refine to_call 22 52 _ _ #[.agg (U d).toArray, .int .i64 i, .int .i64 L.length, (.slice A41 (([] ++ P : List (List UInt8)).length + [d].length) c42)] _ rfl rfl rfl rfl enters_Climb (CNO.out A41 c42 v40) (fun e v44 h5 => ⟨_, h5.1, ?_⟩)
                    have z43 := z39.step h5.2
                    refine hK.out _ _ z43.below fun _ => ?_
                    clear h5
                    simp only [Act.put, List.setIfInBounds_toArray, List.set_cons_zero, List.set_cons_succ]
                    clear hK
                    refine tk_move 11 41 (.tmp 52) (.tuple #[.agg (U z32).toArray, .int .i64 1]) rfl (by kernel_rfl) (by kernel_rfl) (by kernel_rfl) (fun _ _ _ _ h => h) rfl rfl rfl rfl z43.below ?_
                    simp only [Act.put, List.setIfInBounds_toArray, List.set_cons_zero, List.set_cons_succ]
                    refine tk_val 12 53 (.agg (U z32).toArray) rfl (by kernel_rfl) (by kernel_rfl) (by kernel_rfl) (fun _ _ _ _ h => h) rfl rfl (fun w _ => ev_extract (.tmp 41) 0 _ _ rfl rfl rfl) z43.below ?_
                    simp only [Act.put, List.setIfInBounds_toArray, List.set_cons_zero, List.set_cons_succ]
                    refine tk_val 13 54 (.int .i64 1) rfl (by kernel_rfl) (by kernel_rfl) (by kernel_rfl) (fun _ _ _ _ h => h) rfl rfl (fun w _ => ev_extract (.tmp 41) 1 _ _ rfl rfl rfl) z43.below ?_
                    simp only [Act.put, List.setIfInBounds_toArray, List.set_cons_zero, List.set_cons_succ]
                    refine wpAnyH_ready (rs := [15]) (by kernel_rfl) (by simp) ?_
                    refine AllReadyH.cons (o := _) rfl (fun K hK => ?_) AllReadyH.nil
                    · have z45 := z43.fin (U z32).toArray
                      refine to_store (.tmp 11) (.tmp 53) rfl rfl rfl v4.heap.size (flb 32 []) z32 rfl rfl (z43.box _ rfl).1 (by simp [flb]) rfl (hK.out _ _ z45 fun _ => ?_)
                      revert z45; generalize World.setRow v44 _ _ = v46; intro z45
                      clear hK
                      refine tk_assign 16 12 (.tmp 54) (.int .i64 1) rfl (by kernel_rfl) (by kernel_rfl) (by kernel_rfl) (fun _ _ _ _ h => h) rfl rfl rfl rfl z45 ?_
                      simp only [Act.put, List.setIfInBounds_toArray, List.set_cons_zero, List.set_cons_succ]
                      refine wpAnyH_done (by kernel_rfl) (NoPanic.normal ?_) _
                      have HE := Lib.hid z45
                      go_wp2_with fail
                      go_meet
                      exact ⟨_, rfl, rfl, HE.out⟩
          · have z47 := z1.mkrow
            refine to_bs1 50 (.tmp 49) d rfl rfl rfl rfl HDd.out (hK.out _ _ z47.below fun _ => ?_)
            revert z47; generalize World.alloc v2 _ = v48; intro z47
            simp only [Act.put, List.setIfInBounds_toArray, List.set_cons_zero, List.set_cons_succ]
            clear hK
            refine wpAnyH_ready (rs := [6, 14]) (by kernel_rfl) (by simp) ?_
            refine AllReadyH.cons (o := _) rfl (fun K hK => ?_) (AllReadyH.cons (o := _) rfl (fun K hK => ?_) AllReadyH.nil)
            · refine to_app 48 (.tmp 46) (.tmp 47) rfl rfl rfl W9.heap.size (.slice (some ⟨v0.heap.size, 0, none⟩) 0 0) (· < W9.heap.size) [] P A3 c3 rfl rfl (z47.own _ _ rfl) (HDPW.out _ z47.below) (by simp; omega) z47.below.size (fun A51 c52 v50 hO hG hA => ?_)
              have z49 := z47.app hO hG hA
              refine hK.out _ _ z49.below fun _ => ?_
              clear hO hG hA
              simp only [Act.put, List.setIfInBounds_toArray, List.set_cons_zero, List.set_cons_succ]
              clear hK
              refine wpAnyH_ready (rs := [9, 14]) (by kernel_rfl) (by simp) ?_
              refine AllReadyH.cons (o := _) rfl (fun K hK => ?_) (AllReadyH.cons (o := _) rfl (fun K hK => ?_) AllReadyH.nil)
              · refine to_app 51 (.tmp 48) (.tmp 50) rfl rfl rfl W9.heap.size (.slice A51 (([] : List (List UInt8)).length + P.length) c52) (· = v2.heap.size) ([] ++ P) [d] (some ⟨v2.heap.size, 0, none⟩) 1 rfl rfl (z49.own _ _ rfl) (DL.one (z49.row _ rfl).1 HDd.out) (by simp; omega) z49.below.size (fun A55 c56 v54 hO hG hA => ?_)
                have z53 := z49.app hO hG hA
                refine hK.out _ _ z53.below fun _ => ?_
                clear hO hG hA
                simp only [Act.put, List.setIfInBounds_toArray, List.set_cons_zero, List.set_cons_succ]
                clear hK
                refine wpAnyH_ready (rs := [10, 14]) (by kernel_rfl) (by simp) ?_
                refine AllReadyH.cons (o := _) rfl (fun K hK => ?_) (AllReadyH.cons (o := _) rfl (fun K hK => ?_) AllReadyH.nil)
                · refine to_call 22 52 _ _ #[.agg (U d).toArray, .int .i64 i, .int .i64 L.length, (.slice A55 (([] ++ P : List (List UInt8)).length + [d].length) c56)] _ rfl rfl rfl rfl enters_Climb (CNO.out A55 c56 v54) (fun e v58 h5 => ⟨_, h5.1, ?_⟩)
                  have z57 := z53.step h5.2
                  refine hK.out _ _ z57.below fun _ => ?_
                  clear h5
                  simp only [Act.put, List.setIfInBounds_toArray, List.set_cons_zero, List.set_cons_succ]
                  clear hK
                  refine tk_move 11 41 (.tmp 52) (.tuple #[.agg (U z32).toArray, .int .i64 1]) rfl (by kernel_rfl) (by kernel_rfl) (by kernel_rfl) (fun _ _ _ _ h => h) rfl rfl rfl rfl z57.below ?_
                  simp only [Act.put, List.setIfInBounds_toArray, List.set_cons_zero, List.set_cons_succ]
                  refine tk_val 12 53 (.agg (U z32).toArray) rfl (by kernel_rfl) (by kernel_rfl) (by kernel_rfl) (fun _ _ _ _ h => h) rfl rfl (fun w _ => ev_extract (.tmp 41) 0 _ _ rfl rfl rfl) z57.below ?_
                  simp only [Act.put, List.setIfInBounds_toArray, List.set_cons_zero, List.set_cons_succ]
                  refine tk_val 13 54 (.int .i64 1) rfl (by kernel_rfl) (by kernel_rfl) (by kernel_rfl) (fun _ _ _ _ h => h) rfl rfl (fun w _ => ev_extract (.tmp 41) 1 _ _ rfl rfl rfl) z57.below ?_
                  simp only [Act.put, List.setIfInBounds_toArray, List.set_cons_zero, List.set_cons_succ]
                  refine wpAnyH_ready (rs := [14]) (by kernel_rfl) (by simp) ?_
                  refine AllReadyH.cons (o := _) rfl (fun K hK => ?_) AllReadyH.nil
                  · have z59 := z57.mkbox
                    refine to_alloc 11 rfl rfl rfl (hK.out _ _ z59.below fun _ => ?_)
                    revert z59; generalize World.alloc v58 _ = v60; intro z59
                    simp only [Act.put, List.setIfInBounds_toArray, List.set_cons_zero, List.set_cons_succ]
                    clear hK
                    refine wpAnyH_ready (rs := [15]) (by kernel_rfl) (by simp) ?_
                    refine AllReadyH.cons (o := _) rfl (fun K hK => ?_) AllReadyH.nil
                    · have z61 := z59.fin (U z32).toArray
                      refine to_store (.tmp 11) (.tmp 53) rfl rfl rfl v58.heap.size (flb 32 []) z32 rfl rfl (z59.box _ rfl).1 (by simp [flb]) rfl (hK.out _ _ z61 fun _ => ?_)
                      revert z61; generalize World.setRow v60 _ _ = v62; intro z61
                      clear hK
                      refine tk_assign 16 12 (.tmp 54) (.int .i64 1) rfl (by kernel_rfl) (by kernel_rfl) (by kernel_rfl) (fun _ _ _ _ h => h) rfl rfl rfl rfl z61 ?_
                      simp only [Act.put, List.setIfInBounds_toArray, List.set_cons_zero, List.set_cons_succ]
                      refine wpAnyH_done (by kernel_rfl) (NoPanic.normal ?_) _
                      have HE := Lib.hid z61
                      go_wp2_with fail
                      go_meet
                      exact ⟨_, rfl, rfl, HE.out⟩
                · have z63 := z53.mkbox
                  refine to_alloc 11 rfl rfl rfl (hK.out _ _ z63.below fun _ => ?_)
                  revert z63; generalize World.alloc v54 _ = v64; intro z63
                  simp only [Act.put, List.setIfInBounds_toArray, List.set_cons_zero, List.set_cons_succ]
                  clear hK
                  refine wpAnyH_ready (rs := [10]) (by kernel_rfl) (by simp) ?_
                  refine AllReadyH.cons (o := _) rfl (fun K hK => ?_) AllReadyH.nil
                  · refine to_call 22 52 _ _ #[.agg (U d).toArray, .int .i64 i, .int .i64 L.length, (.slice A55 (([] ++ P : List (List UInt8)).length + [d].length) c56)] _ rfl rfl rfl rfl enters_Climb (CNO.out A55 c56 v64) (fun e v66 h5 => ⟨_, h5.1, ?_⟩)
                    have z65 := z63.step h5.2
                    refine hK.out _ _ z65.below fun _ => ?_
                    clear h5
                    simp only [Act.put, List.setIfInBounds_toArray, List.set_cons_zero, List.set_cons_succ]
                    clear hK
                    refine tk_move 11 41 (.tmp 52) (.tuple #[.agg (U z32).toArray, .int .i64 1]) rfl (by kernel_rfl) (by kernel_rfl) (by kernel_rfl) (fun _ _ _ _ h => h) rfl rfl rfl rfl z65.below ?_
                    simp only [Act.put, List.setIfInBounds_toArray, List.set_cons_zero, List.set_cons_succ]
                    refine tk_val 12 53 (.agg (U z32).toArray) rfl (by kernel_rfl) (by kernel_rfl) (by kernel_rfl) (fun _ _ _ _ h => h) rfl rfl (fun w _ => ev_extract (.tmp 41) 0 _ _ rfl rfl rfl) z65.below ?_
                    simp only [Act.put, List.setIfInBounds_toArray, List.set_cons_zero, List.set_cons_succ]
                    refine tk_val 13 54 (.int .i64 1) rfl (by kernel_rfl) (by kernel_rfl) (by kernel_rfl) (fun _ _ _ _ h => h) rfl rfl (fun w _ => ev_extract (.tmp 41) 1 _ _ rfl rfl rfl) z65.below ?_
                    simp only [Act.put, List.setIfInBounds_toArray, List.set_cons_zero, List.set_cons_succ]
                    refine wpAnyH_ready (rs := [15]) (by kernel_rfl) (by simp) ?_
                    refine AllReadyH.cons (o := _) rfl (fun K hK => ?_) AllReadyH.nil
                    · have z67 := z65.fin (U z32).toArray
                      refine to_store (.tmp 11) (.tmp 53) rfl rfl rfl v54.heap.size (flb 32 []) z32 rfl rfl (z65.box _ rfl).1 (by simp [flb]) rfl (hK.out _ _ z67 fun _ => ?_)
                      revert z67; generalize World.setRow v66 _ _ = v68; intro z67
                      clear hK
                      refine tk_assign 16 12 (.tmp 54) (.int .i64 1) rfl (by kernel_rfl) (by kernel_rfl) (by kernel_rfl) (fun _ _ _ _ h => h) rfl rfl rfl rfl z67 ?_
                      simp only [Act.put, List.setIfInBounds_toArray, List.set_cons_zero, List.set_cons_succ]
                      refine wpAnyH_done (by kernel_rfl) (NoPanic.normal ?_) _
                      have HE := Lib.hid z67
                      go_wp2_with fail
                      go_meet
                      exact ⟨_, rfl, rfl, HE.out⟩
              · have z69 := z49.mkbox
                refine to_alloc 11 rfl rfl rfl (hK.out _ _ z69.below fun _ => ?_)
                revert z69; generalize World.alloc v50 _ = v70; intro z69
                simp only [Act.put, List.setIfInBounds_toArray, List.set_cons_zero, List.set_cons_succ]
                clear hK
                refine wpAnyH_ready (rs := [9]) (by kernel_rfl) (by simp) ?_
                refine AllReadyH.cons (o := _) rfl (fun K hK => ?_) AllReadyH.nil
                · refine to_app 51 (.tmp 48) (.tmp 50) rfl rfl rfl W9.heap.size (.slice A51 (([] : List (List UInt8)).length + P.length) c52) (· = v2.heap.size) ([] ++ P) [d] (some ⟨v2.heap.size, 0, none⟩) 1 rfl rfl (z69.own _ _ rfl) (DL.one (z69.row _ rfl).1 HDd.out) (by simp; omega) z69.below.size (fun A73 c74 v72 hO hG hA => ?_)
                  have z71 := z69.app hO hG hA
                  refine hK.out _ _ z71.below fun _ => ?_
                  clear hO hG hA
                  simp only [Act.put, List.setIfInBounds_toArray, List.set_cons_zero, List.set_cons_succ]
                  clear hK
                  refine wpAnyH_ready (rs := [10]) (by kernel_rfl) (by simp) ?_
                  refine AllReadyH.cons (o := _) rfl (fun K hK => ?_) AllReadyH.nil
                  · refine to_call 22 52 _ _ #[.agg (U d).toArray, .int .i64 i, .int .i64 L.length, (.slice A73 (([] ++ P : List (List UInt8)).length + [d].length) c74)] _ rfl rfl rfl rfl enters_Climb (CNO.out A73 c74 v72) (fun e v76 h5 => ⟨_, h5.1, ?_⟩)
                    have z75 := z71.step h5.2
                    refine hK.out _ _ z75.below fun _ => ?_
                    clear h5
                    simp only [Act.put, List.setIfInBounds_toArray, List.set_cons_zero, List.set_cons_succ]
                    clear hK
                    refine tk_move 11 41 (.tmp 52) (.tuple #[.agg (U z32).toArray, .int .i64 1]) rfl (by kernel_rfl) (by kernel_rfl) (by kernel_rfl) (fun _ _ _ _ h => h) rfl rfl rfl rfl z75.below ?_
                    simp only [Act.put, List.setIfInBounds_toArray, List.set_cons_zero, List.set_cons_succ]
                    refine tk_val 12 53 (.agg (U z32).toArray) rfl (by kernel_rfl) (by kernel_rfl) (by kernel_rfl) (fun _ _ _ _ h => h) rfl rfl (fun w _ => ev_extract (.tmp 41) 0 _ _ rfl rfl rfl) z75.below ?_
                    simp only [Act.put, List.setIfInBounds_toArray, List.set_cons_zero, List.set_cons_succ]
                    refine tk_val 13 54 (.int .i64 1) rfl (by kernel_rfl) (by kernel_rfl) (by kernel_rfl) (fun _ _ _ _ h => h) rfl rfl (fun w _ => ev_extract (.tmp 41) 1 _ _ rfl rfl rfl) z75.below ?_
                    simp only [Act.put, List.setIfInBounds_toArray, List.set_cons_zero, List.set_cons_succ]
                    refine wpAnyH_ready (rs := [15]) (by kernel_rfl) (by simp) ?_
                    refine AllReadyH.cons (o := _) rfl (fun K hK => ?_) AllReadyH.nil
                    · have z77 := z75.fin (U z32).toArray
                      refine to_store (.tmp 11) (.tmp 53) rfl rfl rfl v50.heap.size (flb 32 []) z32 rfl rfl (z75.box _ rfl).1 (by simp [flb]) rfl (hK.out _ _ z77 fun _ => ?_)
                      revert z77; generalize World.setRow v76 _ _ = v78; intro z77
                      clear hK
                      refine tk_assign 16 12 (.tmp 54) (.int .i64 1) rfl (by kernel_rfl) (by kernel_rfl) (by kernel_rfl) (fun _ _ _ _ h => h) rfl rfl rfl rfl z77 ?_
                      simp only [Act.put, List.setIfInBounds_toArray, List.set_cons_zero, List.set_cons_succ]
                      refine wpAnyH_done (by kernel_rfl) (NoPanic.normal ?_) _
                      have HE := Lib.hid z77
                      go_wp2_with fail
                      go_meet
                      exact ⟨_, rfl, rfl, HE.out⟩
            · have z79 := z47.mkbox
              refine to_alloc 11 rfl rfl rfl (hK.out _ _ z79.below fun _ => ?_)
              revert z79; generalize World.alloc v48 _ = v80; intro z79
              simp only [Act.put, List.setIfInBounds_toArray, List.set_cons_zero, List.set_cons_succ]
              clear hK
              refine wpAnyH_ready (rs := [6]) (by kernel_rfl) (by simp) ?_
              refine AllReadyH.cons (o := _) rfl (fun K hK => ?_) AllReadyH.nil
              · refine to_app 48 (.tmp 46) (.tmp 47) rfl rfl rfl W9.heap.size (.slice (some ⟨v0.heap.size, 0, none⟩) 0 0) (· < W9.heap.size) [] P A3 c3 rfl rfl (z79.own _ _ rfl) (HDPW.out _ z79.below) (by simp; omega) z79.below.size (fun A83 c84 v82 hO hG hA => ?_)
                have z81 := z79.app hO hG hA
                refine hK.out _ _ z81.below fun _ => ?_
                clear hO hG hA
                simp only [Act.put, List.setIfInBounds_toArray, List.set_cons_zero, List.set_cons_succ]
                clear hK
                refine wpAnyH_ready (rs := [9]) (by kernel_rfl) (by simp) ?_
                refine AllReadyH.cons (o := _) rfl (fun K hK => ?_) AllReadyH.nil
                · refine to_app 51 (.tmp 48) (.tmp 50) rfl rfl rfl W9.heap.size (.slice A83 (([] : List (List UInt8)).length + P.length) c84) (· = v2.heap.size) ([] ++ P) [d] (some ⟨v2.heap.size, 0, none⟩) 1 rfl rfl (z81.own _ _ rfl) (DL.one (z81.row _ rfl).1 HDd.out) (by simp; omega) z81.below.size (fun A87 c88 v86 hO hG hA => ?_)
                  have z85 := z81.app hO hG hA
                  refine hK.out _ _ z85.below fun _ => ?_
                  clear hO hG hA
                  simp only [Act.put, List.setIfInBounds_toArray, List.set_cons_zero, List.set_cons_succ]
                  clear hK
                  refine wpAnyH_ready (rs := [10]) (by kernel_rfl) (by simp) ?_
                  refine AllReadyH.cons (o := _) rfl (fun K hK => ?_) AllReadyH.nil
                  · refine to_call 22 52 _ _ #[.agg (U d).toArray, .int .i64 i, .int .i64 L.length, (.slice A87 (([] ++ P : List (List UInt8)).length + [d].length) c88)] _ rfl rfl rfl rfl enters_Climb (CNO.out A87 c88 v86) (fun e v90 h5 => ⟨_, h5.1, ?_⟩)
                    have z89 := z85.step h5.2
                    refine hK.out _ _ z89.below fun _ => ?_
                    clear h5
                    simp only [Act.put, List.setIfInBounds_toArray, List.set_cons_zero, List.set_cons_succ]
                    clear hK
                    refine tk_move 11 41 (.tmp 52) (.tuple #[.agg (U z32).toArray, .int .i64 1]) rfl (by kernel_rfl) (by kernel_rfl) (by kernel_rfl) (fun _ _ _ _ h => h) rfl rfl rfl rfl z89.below ?_
                    simp only [Act.put, List.setIfInBounds_toArray, List.set_cons_zero, List.set_cons_succ]
                    refine tk_val 12 53 (.agg (U z32).toArray) rfl (by kernel_rfl) (by kernel_rfl) (by kernel_rfl) (fun _ _ _ _ h => h) rfl rfl (fun w _ => ev_extract (.tmp 41) 0 _ _ rfl rfl rfl) z89.below ?_
                    simp only [Act.put, List.setIfInBounds_toArray, List.set_cons_zero, List.set_cons_succ]
                    refine tk_val 13 54 (.int .i64 1) rfl (by kernel_rfl) (by kernel_rfl) (by kernel_rfl) (fun _ _ _ _ h => h) rfl rfl (fun w _ => ev_extract (.tmp 41) 1 _ _ rfl rfl rfl) z89.below ?_
                    simp only [Act.put, List.setIfInBounds_toArray, List.set_cons_zero, List.set_cons_succ]
                    refine wpAnyH_ready (rs := [15]) (by kernel_rfl) (by simp) ?_
                    refine AllReadyH.cons (o := _) rfl (fun K hK => ?_) AllReadyH.nil
                    · have z91 := z89.fin (U z32).toArray
                      refine to_store (.tmp 11) (.tmp 53) rfl rfl rfl v48.heap.size (flb 32 []) z32 rfl rfl (z89.box _ rfl).1 (by simp [flb]) rfl (hK.out _ _ z91 fun _ => ?_)
                      revert z91; generalize World.setRow v90 _ _ = v92; intro z91
                      clear hK
                      refine tk_assign 16 12 (.tmp 54) (.int .i64 1) rfl (by kernel_rfl) (by kernel_rfl) (by kernel_rfl) (fun _ _ _ _ h => h) rfl rfl rfl rfl z91 ?_
                      simp only [Act.put, List.setIfInBounds_toArray, List.set_cons_zero, List.set_cons_succ]
                      refine wpAnyH_done (by kernel_rfl) (NoPanic.normal ?_) _
                      have HE := Lib.hid z91
                      go_wp2_with fail
                      go_meet
                      exact ⟨_, rfl, rfl, HE.out⟩
          · have z93 := z1.mkbox
            refine to_alloc 11 rfl rfl rfl (hK.out _ _ z93.below fun _ => ?_)
            revert z93; generalize World.alloc v2 _ = v94; intro z93
            simp only [Act.put, List.setIfInBounds_toArray, List.set_cons_zero, List.set_cons_succ]
            clear hK
            refine wpAnyH_ready (rs := [6, 8]) (by kernel_rfl) (by simp) ?_
            refine AllReadyH.cons (o := _) rfl (fun K hK => ?_) (AllReadyH.cons (o := _) rfl (fun K hK => ?_) AllReadyH.nil)
            · refine to_app 48 (.tmp 46) (.tmp 47) rfl rfl rfl W9.heap.size (.slice (some ⟨v0.heap.size, 0, none⟩) 0 0) (· < W9.heap.size) [] P A3 c3 rfl rfl (z93.own _ _ rfl) (HDPW.out _ z93.below) (by simp; omega) z93.below.size (fun A97 c98 v96 hO hG hA => ?_)
              have z95 := z93.app hO hG hA
              refine hK.out _ _ z95.below fun _ => ?_
              clear hO hG hA
              simp only [Act.put, List.setIfInBounds_toArray, List.set_cons_zero, List.set_cons_succ]
              clear hK
              refine wpAnyH_ready (rs := [8]) (by kernel_rfl) (by simp) ?_
              refine AllReadyH.cons (o := _) rfl (fun K hK => ?_) AllReadyH.nil
              · have z99 := z95.mkrow
                refine to_bs1 50 (.tmp 49) d rfl rfl rfl rfl HDd.out (hK.out _ _ z99.below fun _ => ?_)
                revert z99; generalize World.alloc v96 _ = v100; intro z99
                simp only [Act.put, List.setIfInBounds_toArray, List.set_cons_zero, List.set_cons_succ]
                clear hK
                refine wpAnyH_ready (rs := [9]) (by kernel_rfl) (by simp) ?_
                refine AllReadyH.cons (o := _) rfl (fun K hK => ?_) AllReadyH.nil
                · refine to_app 51 (.tmp 48) (.tmp 50) rfl rfl rfl W9.heap.size (.slice A97 (([] : List (List UInt8)).length + P.length) c98) (· = v96.heap.size) ([] ++ P) [d] (some ⟨v96.heap.size, 0, none⟩) 1 rfl rfl (z99.own _ _ rfl) (DL.one (z99.row _ rfl).1 HDd.out) (by simp; omega) z99.below.size (fun A103 c104 v102 hO hG hA => ?_)
                  have z101 := z99.app hO hG hA
                  refine hK.out _ _ z101.below fun _ => ?_
                  clear hO hG hA
                  simp only [Act.put, List.setIfInBounds_toArray, List.set_cons_zero, List.set_cons_succ]
                  clear hK
                  refine wpAnyH_ready (rs := [10]) (by kernel_rfl) (by simp) ?_
                  refine AllReadyH.cons (o := _) rfl (fun K hK => ?_) AllReadyH.nil
                  · refine to_call 22 52 _ _ #[.agg (U d).toArray, .int .i64 i, .int .i64 L.length, (.slice A103 (([] ++ P : List (List UInt8)).length + [d].length) c104)] _ rfl rfl rfl rfl enters_Climb (CNO.out A103 c104 v102) (fun e v106 h5 => ⟨_, h5.1, ?_⟩)
                    have z105 := z101.step h5.2
                    refine hK.out _ _ z105.below fun _ => ?_
                    clear h5
                    simp only [Act.put, List.setIfInBounds_toArray, List.set_cons_zero, List.set_cons_succ]
                    clear hK
                    refine tk_move 11 41 (.tmp 52) (.tuple #[.agg (U z32).toArray, .int .i64 1]) rfl (by kernel_rfl) (by kernel_rfl) (by kernel_rfl) (fun _ _ _ _ h => h) rfl rfl rfl rfl z105.below ?_
                    simp only [Act.put, List.setIfInBounds_toArray, List.set_cons_zero, List.set_cons_succ]
                    refine tk_val 12 53 (.agg (U z32).toArray) rfl (by kernel_rfl) (by kernel_rfl) (by kernel_rfl) (fun _ _ _ _ h => h) rfl rfl (fun w _ => ev_extract (.tmp 41) 0 _ _ rfl rfl rfl) z105.below ?_
                    simp only [Act.put, List.setIfInBounds_toArray, List.set_cons_zero, List.set_cons_succ]
                    refine tk_val 13 54 (.int .i64 1) rfl (by kernel_rfl) (by kernel_rfl) (by kernel_rfl) (fun _ _ _ _ h => h) rfl rfl (fun w _ => ev_extract (.tmp 41) 1 _ _ rfl rfl rfl) z105.below ?_
                    simp only [Act.put, List.setIfInBounds_toArray, List.set_cons_zero, List.set_cons_succ]
                    refine wpAnyH_ready (rs := [15]) (by kernel_rfl) (by simp) ?_
                    refine AllReadyH.cons (o := _) rfl (fun K hK => ?_) AllReadyH.nil
                    · have z107 := z105.fin (U z32).toArray
                      refine to_store (.tmp 11) (.tmp 53) rfl rfl rfl v2.heap.size (flb 32 []) z32 rfl rfl (z105.box _ rfl).1 (by simp [flb]) rfl (hK.out _ _ z107 fun _ => ?_)
                      revert z107; generalize World.setRow v106 _ _ = v108; intro z107
                      clear hK
                      refine tk_assign 16 12 (.tmp 54) (.int .i64 1) rfl (by kernel_rfl) (by kernel_rfl) (by kernel_rfl) (fun _ _ _ _ h => h) rfl rfl rfl rfl z107 ?_
                      simp only [Act.put, List.setIfInBounds_toArray, List.set_cons_zero, List.set_cons_succ]
                      refine wpAnyH_done (by kernel_rfl) (NoPanic.normal ?_) _
                      have HE := Lib.hid z107
                      go_wp2_with fail
                      go_meet
                      exact ⟨_, rfl, rfl, HE.out⟩
            · have z109 := z93.mkrow
              refine to_bs1 50 (.tmp 49) d rfl rfl rfl rfl HDd.out (hK.out _ _ z109.below fun _ => ?_)
              revert z109; generalize World.alloc v94 _ = v110; intro z109
              simp only [Act.put, List.setIfInBounds_toArray, List.set_cons_zero, List.set_cons_succ]
              clear hK
              refine wpAnyH_ready (rs := [6]) (by kernel_rfl) (by simp) ?_
              refine AllReadyH.cons (o := _) rfl (fun K hK => ?_) AllReadyH.nil
              · refine to_app 48 (.tmp 46) (.tmp 47) rfl rfl rfl W9.heap.size (.slice (some ⟨v0.heap.size, 0, none⟩) 0 0) (· < W9.heap.size) [] P A3 c3 rfl rfl (z109.own _ _ rfl) (HDPW.out _ z109.below) (by simp; omega) z109.below.size (fun A113 c114 v112 hO hG hA => ?_)
                have z111 := z109.app hO hG hA
                refine hK.out _ _ z111.below fun _ => ?_
                clear hO hG hA
                simp only [Act.put, List.setIfInBounds_toArray, List.set_cons_zero, List.set_cons_succ]
                clear hK
                refine wpAnyH_ready (rs := [9]) (by kernel_rfl) (by simp) ?_
                refine AllReadyH.cons (o := _) rfl (fun K hK => ?_) AllReadyH.nil
                · refine to_app 51 (.tmp 48) (.tmp 50) rfl rfl rfl W9.heap.size (.slice A113 (([] : List (List UInt8)).length + P.length) c114) (· = v94.heap.size) ([] ++ P) [d] (some ⟨v94.heap.size, 0, none⟩) 1 rfl rfl (z111.own _ _ rfl) (DL.one (z111.row _ rfl).1 HDd.out) (by simp; omega) z111.below.size (fun A117 c118 v116 hO hG hA => ?_)
                  have z115 := z111.app hO hG hA
                  refine hK.out _ _ z115.below fun _ => ?_
                  clear hO hG hA
                  simp only [Act.put, List.setIfInBounds_toArray, List.set_cons_zero, List.set_cons_succ]
                  clear hK
                  refine wpAnyH_ready (rs := [10]) (by kernel_rfl) (by simp) ?_
                  refine AllReadyH.cons (o := _) rfl (fun K hK => ?_) AllReadyH.nil
                  · refine to_call 22 52 _ _ #[.agg (U d).toArray, .int .i64 i, .int .i64 L.length, (.slice A117 (([] ++ P : List (List UInt8)).length + [d].length) c118)] _ rfl rfl rfl rfl enters_Climb (CNO.out A117 c118 v116) (fun e v120 h5 => ⟨_, h5.1, ?_⟩)
                    have z119 := z115.step h5.2
                    refine hK.out _ _ z119.below fun _ => ?_
                    clear h5
                    simp only [Act.put, List.setIfInBounds_toArray, List.set_cons_zero, List.set_cons_succ]
                    clear hK
                    refine tk_move 11 41 (.tmp 52) (.tuple #[.agg (U z32).toArray, .int .i64 1]) rfl (by kernel_rfl) (by kernel_rfl) (by kernel_rfl) (fun _ _ _ _ h => h) rfl rfl rfl rfl z119.below ?_
                    simp only [Act.put, List.setIfInBounds_toArray, List.set_cons_zero, List.set_cons_succ]
                    refine tk_val 12 53 (.agg (U z32).toArray) rfl (by kernel_rfl) (by kernel_rfl) (by kernel_rfl) (fun _ _ _ _ h => h) rfl rfl (fun w _ => ev_extract (.tmp 41) 0 _ _ rfl rfl rfl) z119.below ?_
                    simp only [Act.put, List.setIfInBounds_toArray, List.set_cons_zero, List.set_cons_succ]
                    refine tk_val 13 54 (.int .i64 1) rfl (by kernel_rfl) (by kernel_rfl) (by kernel_rfl) (fun _ _ _ _ h => h) rfl rfl (fun w _ => ev_extract (.tmp 41) 1 _ _ rfl rfl rfl) z119.below ?_
                    simp only [Act.put, List.setIfInBounds_toArray, List.set_cons_zero, List.set_cons_succ]
                    refine wpAnyH_ready (rs := [15]) (by kernel_rfl) (by simp) ?_
                    refine AllReadyH.cons (o := _) rfl (fun K hK => ?_) AllReadyH.nil
                    · have z121 := z119.fin (U z32).toArray
                      refine to_store (.tmp 11) (.tmp 53) rfl rfl rfl v2.heap.size (flb 32 []) z32 rfl rfl (z119.box _ rfl).1 (by simp [flb]) rfl (hK.out _ _ z121 fun _ => ?_)
                      revert z121; generalize World.setRow v120 _ _ = v122; intro z121
                      clear hK
                      refine tk_assign 16 12 (.tmp 54) (.int .i64 1) rfl (by kernel_rfl) (by kernel_rfl) (by kernel_rfl) (fun _ _ _ _ h => h) rfl rfl rfl rfl z121 ?_
                      simp only [Act.put, List.setIfInBounds_toArray, List.set_cons_zero, List.set_cons_succ]
                      refine wpAnyH_done (by kernel_rfl) (NoPanic.normal ?_) _
                      have HE := Lib.hid z121
                      go_wp2_with fail
                      go_meet
                      exact ⟨_, rfl, rfl, HE.out⟩
        · have z123 := z0.mkrow
          refine to_bs1 50 (.tmp 49) d rfl rfl rfl rfl HDd.out (hK.out _ _ z123.below fun _ => ?_)
          revert z123; generalize World.alloc v0 _ = v124; intro z123
          simp only [Act.put, List.setIfInBounds_toArray, List.set_cons_zero, List.set_cons_succ]
          clear hK
          refine wpAnyH_ready (rs := [4, 14]) (by kernel_rfl) (by simp) ?_
          refine AllReadyH.cons (o := _) rfl (fun K hK => ?_) (AllReadyH.cons (o := _) rfl (fun K hK => ?_) AllReadyH.nil)
          · have z125 := z123.nil
            refine to_bs0 46 rfl rfl rfl (hK.out _ _ z125.below fun _ => ?_)
            revert z125; generalize World.alloc v124 _ = v126; intro z125
            simp only [Act.put, List.setIfInBounds_toArray, List.set_cons_zero, List.set_cons_succ]
            clear hK
            refine wpAnyH_ready (rs := [6, 14]) (by kernel_rfl) (by simp) ?_
            refine AllReadyH.cons (o := _) rfl (fun K hK => ?_) (AllReadyH.cons (o := _) rfl (fun K hK => ?_) AllReadyH.nil)
            · refine to_app 48 (.tmp 46) (.tmp 47) rfl rfl rfl W9.heap.size (.slice (some ⟨v124.heap.size, 0, none⟩) 0 0) (· < W9.heap.size) [] P A3 c3 rfl rfl (z125.own _ _ rfl) (HDPW.out _ z125.below) (by simp; omega) z125.below.size (fun A129 c130 v128 hO hG hA => ?_)
              have z127 := z125.app hO hG hA
              refine hK.out _ _ z127.below fun _ => ?_
              clear hO hG hA
              simp only [Act.put, List.setIfInBounds_toArray, List.set_cons_zero, List.set_cons_succ]
              clear hK
              refine wpAnyH_ready (rs := [9, 14]) (by kernel_rfl) (by simp) ?_
              refine AllReadyH.cons (o := _) rfl (fun K hK => ?_) (AllReadyH.cons (o := _) rfl (fun K hK => ?_) AllReadyH.nil)
              · refine to_app 51 (.tmp 48) (.tmp 50) rfl rfl rfl W9.heap.size (.slice A129 (([] : List (List UInt8)).length + P.length) c130) (· = v0.heap.size) ([] ++ P) [d] (some ⟨v0.heap.size, 0, none⟩) 1 rfl rfl (z127.own _ _ rfl) (DL.one (z127.row _ rfl).1 HDd.out) (by simp; omega) z127.below.size (fun A133 c134 v132 hO hG hA => ?_)
                have z131 := z127.app hO hG hA
                refine hK.out _ _ z131.below fun _ => ?_
                clear hO hG hA
                simp only [Act.put, List.setIfInBounds_toArray, List.set_cons_zero, List.set_cons_succ]
                clear hK
                refine wpAnyH_ready (rs := [10, 14]) (by kernel_rfl) (by simp) ?_
                refine AllReadyH.cons (o := _) rfl (fun K hK => ?_) (AllReadyH.cons (o := _) rfl (fun K hK => ?_) AllReadyH.nil)
                · refine to_call 22 52 _ _ #[.agg (U d).toArray, .int .i64 i, .int .i64 L.length, (.slice A133 (([] ++ P : List (List UInt8)).length + [d].length) c134)] _ rfl rfl rfl rfl enters_Climb (CNO.out A133 c134 v132) (fun e v136 h5 => ⟨_, h5.1, ?_⟩)
                  have z135 := z131.step h5.2
                  refine hK.out _ _ z135.below fun _ => ?_
                  clear h5
                  simp only [Act.put, List.setIfInBounds_toArray, List.set_cons_zero, List.set_cons_succ]
                  clear hK
                  refine tk_move 11 41 (.tmp 52) (.tuple #[.agg (U z32).toArray, .int .i64 1]) rfl (by kernel_rfl) (by kernel_rfl) (by kernel_rfl) (fun _ _ _ _ h => h) rfl rfl rfl rfl z135.below ?_
                  simp only [Act.put, List.setIfInBounds_toArray, List.set_cons_zero, List.set_cons_succ]
                  refine tk_val 12 53 (.agg (U z32).toArray) rfl (by kernel_rfl) (by kernel_rfl) (by kernel_rfl) (fun _ _ _ _ h => h) rfl rfl (fun w _ => ev_extract (.tmp 41) 0 _ _ rfl rfl rfl) z135.below ?_
                  simp only [Act.put, List.setIfInBounds_toArray, List.set_cons_zero, List.set_cons_succ]
                  refine tk_val 13 54 (.int .i64 1) rfl (by kernel_rfl) (by kernel_rfl) (by kernel_rfl) (fun _ _ _ _ h => h) rfl rfl (fun w _ => ev_extract (.tmp 41) 1 _ _ rfl rfl rfl) z135.below ?_
                  simp only [Act.put, List.setIfInBounds_toArray, List.set_cons_zero, List.set_cons_succ]
                  refine wpAnyH_ready (rs := [14]) (by kernel_rfl) (by simp) ?_
                  refine AllReadyH.cons (o := _) rfl (fun K hK => ?_) AllReadyH.nil
                  · have z137 := z135.mkbox
                    refine to_alloc 11 rfl rfl rfl (hK.out _ _ z137.below fun _ => ?_)
                    revert z137; generalize World.alloc v136 _ = v138; intro z137
                    simp only [Act.put, List.setIfInBounds_toArray, List.set_cons_zero, List.set_cons_succ]
                    clear hK
                    refine wpAnyH_ready (rs := [15]) (by kernel_rfl) (by simp) ?_
                    refine AllReadyH.cons (o := _) rfl (fun K hK => ?_) AllReadyH.nil
                    · have z139 := z137.fin (U z32).toArray
                      refine to_store (.tmp 11) (.tmp 53) rfl rfl rfl v136.heap.size (flb 32 []) z32 rfl rfl (z137.box _ rfl).1 (by simp [flb]) rfl (hK.out _ _ z139 fun _ => ?_)
                      revert z139; generalize World.setRow v138 _ _ = v140; intro z139
                      clear hK
                      refine tk_assign 16 12 (.tmp 54) (.int .i64 1) rfl (by kernel_rfl) (by kernel_rfl) (by kernel_rfl) (fun _ _ _ _ h => h) rfl rfl rfl rfl z139 ?_
                      simp only [Act.put, List.setIfInBounds_toArray, List.set_cons_zero, List.set_cons_succ]
                      refine wpAnyH_done (by kernel_rfl) (NoPanic.normal ?_) _
                      have HE := Lib.hid z139
                      go_wp2_with fail
                      go_meet
                      exact ⟨_, rfl, rfl, HE.out⟩
                · have z141 := z131.mkbox
                  refine to_alloc 11 rfl rfl rfl (hK.out _ _ z141.below fun _ => ?_)
                  revert z141; generalize World.alloc v132 _ = v142; intro z141
                  simp only [Act.put, List.setIfInBounds_toArray, List.set_cons_zero, List.set_cons_succ]
                  clear hK
                  refine wpAnyH_ready (rs := [10]) (by kernel_rfl) (by simp) ?_
                  refine AllReadyH.cons (o := _) rfl (fun K hK => ?_) AllReadyH.nil
                  · refine to_call 22 52 _ _ #[.agg (U d).toArray, .int .i64 i, .int .i64 L.length, (.slice A133 (([] ++ P : List (List UInt8)).length + [d].length) c134)] _ rfl rfl rfl rfl enters_Climb (CNO.out A133 c134 v142) (fun e v144 h5 => ⟨_, h5.1, ?_⟩)
                    have z143 := z141.step h5.2
                    refine hK.out _ _ z143.below fun _ => ?_
                    clear h5
                    simp only [Act.put, List.setIfInBounds_toArray, List.set_cons_zero, List.set_cons_succ]
                    clear hK
                    refine tk_move 11 41 (.tmp 52) (.tuple #[.agg (U z32).toArray, .int .i64 1]) rfl (by kernel_rfl) (by kernel_rfl) (by kernel_rfl) (fun _ _ _ _ h => h) rfl rfl rfl rfl z143.below ?_
                    simp only [Act.put, List.setIfInBounds_toArray, List.set_cons_zero, List.set_cons_succ]
                    refine tk_val 12 53 (.agg (U z32).toArray) rfl (by kernel_rfl) (by kernel_rfl) (by kernel_rfl) (fun _ _ _ _ h => h) rfl rfl (fun w _ => ev_extract (.tmp 41) 0 _ _ rfl rfl rfl) z143.below ?_
                    simp only [Act.put, List.setIfInBounds_toArray, List.set_cons_zero, List.set_cons_succ]
                    refine tk_val 13 54 (.int .i64 1) rfl (by kernel_rfl) (by kernel_rfl) (by kernel_rfl) (fun _ _ _ _ h => h) rfl rfl (fun w _ => ev_extract (.tmp 41) 1 _ _ rfl rfl rfl) z143.below ?_
                    simp only [Act.put, List.setIfInBounds_toArray, List.set_cons_zero, List.set_cons_succ]
                    refine wpAnyH_ready (rs := [15]) (by kernel_rfl) (by simp) ?_
                    refine AllReadyH.cons (o := _) rfl (fun K hK => ?_) AllReadyH.nil
                    · have z145 := z143.fin (U z32).toArray
                      refine to_store (.tmp 11) (.tmp 53) rfl rfl rfl v132.heap.size (flb 32 []) z32 rfl rfl (z143.box _ rfl).1 (by simp [flb]) rfl (hK.out _ _ z145 fun _ => ?_)
                      revert z145; generalize World.setRow v144 _ _ = v146; intro z145
                      clear hK
                      refine tk_assign 16 12 (.tmp 54) (.int .i64 1) rfl (by kernel_rfl) (by kernel_rfl) (by kernel_rfl) (fun _ _ _ _ h => h) rfl rfl rfl rfl z145 ?_
                      simp only [Act.put, List.setIfInBounds_toArray, List.set_cons_zero, List.set_cons_succ]
                      refine wpAnyH_done (by kernel_rfl) (NoPanic.normal ?_) _
                      have HE := Lib.hid z145
                      go_wp2_with fail
                      go_meet
                      exact ⟨_, rfl, rfl, HE.out⟩
              · have z147 := z127.mkbox
                refine to_alloc 11 rfl rfl rfl (hK.out _ _ z147.below fun _ => ?_)
                revert z147; generalize World.alloc v128 _ = v148; intro z147
                simp only [Act.put, List.setIfInBounds_toArray, List.set_cons_zero, List.set_cons_succ]
                clear hK
                refine wpAnyH_ready (rs := [9]) (by kernel_rfl) (by simp) ?_
                refine AllReadyH.cons (o := _) rfl (fun K hK => ?_) AllReadyH.nil
                · refine to_app 51 (.tmp 48) (.tmp 50) rfl rfl rfl W9.heap.size (.slice A129 (([] : List (List UInt8)).length + P.length) c130) (· = v0.heap.size) ([] ++ P) [d] (some ⟨v0.heap.size, 0, none⟩) 1 rfl rfl (z147.own _ _ rfl) (DL.one (z147.row _ rfl).1 HDd.out) (by simp; omega) z147.below.size (fun A151 c152 v150 hO hG hA => ?_)
                  have z149 := z147.app hO hG hA
                  refine hK.out _ _ z149.below fun _ => ?_
                  clear hO hG hA
                  simp only [Act.put, List.setIfInBounds_toArray, List.set_cons_zero, List.set_cons_succ]
                  clear hK
                  refine wpAnyH_ready (rs := [10]) (by kernel_rfl) (by simp) ?_
                  refine AllReadyH.cons (o := _) rfl (fun K hK => ?_) AllReadyH.nil
                  · refine to_call 22 52 _ _ #[.agg (U d).toArray, .int .i64 i, .int .i64 L.length, (.slice A151 (([] ++ P : List (List UInt8)).length + [d].length) c152)] _ rfl rfl rfl rfl enters_Climb (CNO.out A151 c152 v150) (fun e v154 h5 => ⟨_, h5.1, ?_⟩)
                    have z153 := z149.step h5.2
                    refine hK.out _ _ z153.below fun _ => ?_
                    clear h5
                    simp only [Act.put, List.setIfInBounds_toArray, List.set_cons_zero, List.set_cons_succ]
                    clear hK
                    refine tk_move 11 41 (.tmp 52) (.tuple #[.agg (U z32).toArray, .int .i64 1]) rfl (by kernel_rfl) (by kernel_rfl) (by kernel_rfl) (fun _ _ _ _ h => h) rfl rfl rfl rfl z153.below ?_
                    simp only [Act.put, List.setIfInBounds_toArray, List.set_cons_zero, List.set_cons_succ]
                    refine tk_val 12 53 (.agg (U z32).toArray) rfl (by kernel_rfl) (by kernel_rfl) (by kernel_rfl) (fun _ _ _ _ h => h) rfl rfl (fun w _ => ev_extract (.tmp 41) 0 _ _ rfl rfl rfl) z153.below ?_
                    simp only [Act.put, List.setIfInBounds_toArray, List.set_cons_zero, List.set_cons_succ]
                    refine tk_val 13 54 (.int .i64 1) rfl (by kernel_rfl) (by kernel_rfl) (by kernel_rfl) (fun _ _ _ _ h => h) rfl rfl (fun w _ => ev_extract (.tmp 41) 1 _ _ rfl rfl rfl) z153.below ?_
                    simp only [Act.put, List.setIfInBounds_toArray, List.set_cons_zero, List.set_cons_succ]
                    refine wpAnyH_ready (rs := [15]) (by kernel_rfl) (by simp) ?_
                    refine AllReadyH.cons (o := _) rfl (fun K hK => ?_) AllReadyH.nil
                    · have z155 := z153.fin (U z32).toArray
                      refine to_store (.tmp 11) (.tmp 53) rfl rfl rfl v128.heap.size (flb 32 []) z32 rfl rfl (z153.box _ rfl).1 (by simp [flb]) rfl (hK.out _ _ z155 fun _ => ?_)
                      revert z155; generalize World.setRow v154 _ _ = v156; intro z155
                      clear hK
                      refine tk_assign 16 12 (.tmp 54) (.int .i64 1) rfl (by kernel_rfl) (by kernel_rfl) (by kernel_rfl) (fun _ _ _ _ h => h) rfl rfl rfl rfl z155 ?_
                      simp only [Act.put, List.setIfInBounds_toArray, List.set_cons_zero, List.set_cons_succ]
                      refine wpAnyH_done (by kernel_rfl) (NoPanic.normal ?_) _
                      have HE := Lib.hid z155
                      go_wp2_with fail
                      go_meet
                      exact ⟨_, rfl, rfl, HE.out⟩
            · have z157 := z125.mkbox
              refine to_alloc 11 rfl rfl rfl (hK.out _ _ z157.below fun _ => ?_)
              revert z157; generalize World.alloc v126 _ = v158; intro z157
              simp only [Act.put, List.setIfInBounds_toArray, List.set_cons_zero, List.set_cons_succ]
              clear hK
              refine wpAnyH_ready (rs := [6]) (by kernel_rfl) (by simp) ?_
              refine AllReadyH.cons (o := _) rfl (fun K hK => ?_) AllReadyH.nil
              · refine to_app 48 (.tmp 46) (.tmp 47) rfl rfl rfl W9.heap.size (.slice (some ⟨v124.heap.size, 0, none⟩) 0 0) (· < W9.heap.size) [] P A3 c3 rfl rfl (z157.own _ _ rfl) (HDPW.out _ z157.below) (by simp; omega) z157.below.size (fun A161 c162 v160 hO hG hA => ?_)
                have z159 := z157.app hO hG hA
                refine hK.out _ _ z159.below fun _ => ?_
                clear hO hG hA
                simp only [Act.put, List.setIfInBounds_toArray, List.set_cons_zero, List.set_cons_succ]
                clear hK
                refine wpAnyH_ready (rs := [9]) (by kernel_rfl) (by simp) ?_
                refine AllReadyH.cons (o := _) rfl (fun K hK => ?_) AllReadyH.nil
                · refine to_app 51 (.tmp 48) (.tmp 50) rfl rfl rfl W9.heap.size (.slice A161 (([] : List (List UInt8)).length + P.length) c162) (· = v0.heap.size) ([] ++ P) [d] (some ⟨v0.heap.size, 0, none⟩) 1 rfl rfl (z159.own _ _ rfl) (DL.one (z159.row _ rfl).1 HDd.out) (by simp; omega) z159.below.size (fun A165 c166 v164 hO hG hA => ?_)
                  have z163 := z159.app hO hG hA
                  refine hK.out _ _ z163.below fun _ => ?_
                  clear hO hG hA
                  simp only [Act.put, List.setIfInBounds_toArray, List.set_cons_zero, List.set_cons_succ]
                  clear hK
                  refine wpAnyH_ready (rs := [10]) (by kernel_rfl) (by simp) ?_
                  refine AllReadyH.cons (o := _) rfl (fun K hK => ?_) AllReadyH.nil
                  · refine to_call 22 52 _ _ #[.agg (U d).toArray, .int .i64 i, .int .i64 L.length, (.slice A165 (([] ++ P : List (List UInt8)).length + [d].length) c166)] _ rfl rfl rfl rfl enters_Climb (CNO.out A165 c166 v164) (fun e v168 h5 => ⟨_, h5.1, ?_⟩)
                    have z167 := z163.step h5.2
                    refine hK.out _ _ z167.below fun _ => ?_
                    clear h5
                    simp only [Act.put, List.setIfInBounds_toArray, List.set_cons_zero, List.set_cons_succ]
                    clear hK
                    refine tk_move 11 41 (.tmp 52) (.tuple #[.agg (U z32).toArray, .int .i64 1]) rfl (by kernel_rfl) (by kernel_rfl) (by kernel_rfl) (fun _ _ _ _ h => h) rfl rfl rfl rfl z167.below ?_
                    simp only [Act.put, List.setIfInBounds_toArray, List.set_cons_zero, List.set_cons_succ]
                    refine tk_val 12 53 (.agg (U z32).toArray) rfl (by kernel_rfl) (by kernel_rfl) (by kernel_rfl) (fun _ _ _ _ h => h) rfl rfl (fun w _ => ev_extract (.tmp 41) 0 _ _ rfl rfl rfl) z167.below ?_
                    simp only [Act.put, List.setIfInBounds_toArray, List.set_cons_zero, List.set_cons_succ]
                    refine tk_val 13 54 (.int .i64 1) rfl (by kernel_rfl) (by kernel_rfl) (by kernel_rfl) (fun _ _ _ _ h => h) rfl rfl (fun w _ => ev_extract (.tmp 41) 1 _ _ rfl rfl rfl) z167.below ?_
                    simp only [Act.put, List.setIfInBounds_toArray, List.set_cons_zero, List.set_cons_succ]
                    refine wpAnyH_ready (rs := [15]) (by kernel_rfl) (by simp) ?_
                    refine AllReadyH.cons (o := _) rfl (fun K hK => ?_) AllReadyH.nil
                    · have z169 := z167.fin (U z32).toArray
                      refine to_store (.tmp 11) (.tmp 53) rfl rfl rfl v126.heap.size (flb 32 []) z32 rfl rfl (z167.box _ rfl).1 (by simp [flb]) rfl (hK.out _ _ z169 fun _ => ?_)
                      revert z169; generalize World.setRow v168 _ _ = v170; intro z169
                      clear hK
                      refine tk_assign 16 12 (.tmp 54) (.int .i64 1) rfl (by kernel_rfl) (by kernel_rfl) (by kernel_rfl) (fun _ _ _ _ h => h) rfl rfl rfl rfl z169 ?_
                      simp only [Act.put, List.setIfInBounds_toArray, List.set_cons_zero, List.set_cons_succ]
                      refine wpAnyH_done (by kernel_rfl) (NoPanic.normal ?_) _
                      have HE := Lib.hid z169
                      go_wp2_with fail
                      go_meet
                      exact ⟨_, rfl, rfl, HE.out⟩
          · have z171 := z123.mkbox
            refine to_alloc 11 rfl rfl rfl (hK.out _ _ z171.below fun _ => ?_)
            revert z171; generalize World.alloc v124 _ = v172; intro z171
            simp only [Act.put, List.setIfInBounds_toArray, List.set_cons_zero, List.set_cons_succ]
            clear hK
            refine wpAnyH_ready (rs := [4]) (by kernel_rfl) (by simp) ?_
            refine AllReadyH.cons (o := _) rfl (fun K hK => ?_) AllReadyH.nil
            · have z173 := z171.nil
              refine to_bs0 46 rfl rfl rfl (hK.out _ _ z173.below fun _ => ?_)
              revert z173; generalize World.alloc v172 _ = v174; intro z173
              simp only [Act.put, List.setIfInBounds_toArray, List.set_cons_zero, List.set_cons_succ]
              clear hK
              refine wpAnyH_ready (rs := [6]) (by kernel_rfl) (by simp) ?_
              refine AllReadyH.cons (o := _) rfl (fun K hK => ?_) AllReadyH.nil
              · refine to_app 48 (.tmp 46) (.tmp 47) rfl rfl rfl W9.heap.size (.slice (some ⟨v172.heap.size, 0, none⟩) 0 0) (· < W9.heap.size) [] P A3 c3 rfl rfl (z173.own _ _ rfl) (HDPW.out _ z173.below) (by simp; omega) z173.below.size (fun A177 c178 v176 hO hG hA => ?_)
                have z175 := z173.app hO hG hA
                refine hK.out _ _ z175.below fun _ => ?_
                clear hO hG hA
                simp only [Act.put, List.setIfInBounds_toArray, List.set_cons_zero, List.set_cons_succ]
                clear hK
                refine wpAnyH_ready (rs := [9]) (by kernel_rfl) (by simp) ?_
                refine AllReadyH.cons (o := _) rfl (fun K hK => ?_) AllReadyH.nil
                · refine to_app 51 (.tmp 48) (.tmp 50) rfl rfl rfl W9.heap.size (.slice A177 (([] : List (List UInt8)).length + P.length) c178) (· = v0.heap.size) ([] ++ P) [d] (some ⟨v0.heap.size, 0, none⟩) 1 rfl rfl (z175.own _ _ rfl) (DL.one (z175.row _ rfl).1 HDd.out) (by simp; omega) z175.below.size (fun A181 c182 v180 hO hG hA => ?_)
                  have z179 := z175.app hO hG hA
                  refine hK.out _ _ z179.below fun _ => ?_
                  clear hO hG hA
                  simp only [Act.put, List.setIfInBounds_toArray, List.set_cons_zero, List.set_cons_succ]
                  clear hK
                  refine wpAnyH_ready (rs := [10]) (by kernel_rfl) (by simp) ?_
                  refine AllReadyH.cons (o := _) rfl (fun K hK => ?_) AllReadyH.nil
                  · refine to_call 22 52 _ _ #[.agg (U d).toArray, .int .i64 i, .int .i64 L.length, (.slice A181 (([] ++ P : List (List UInt8)).length + [d].length) c182)] _ rfl rfl rfl rfl enters_Climb (CNO.out A181 c182 v180) (fun e v184 h5 => ⟨_, h5.1, ?_⟩)
                    have z183 := z179.step h5.2
                    refine hK.out _ _ z183.below fun _ => ?_
                    clear h5
                    simp only [Act.put, List.setIfInBounds_toArray, List.set_cons_zero, List.set_cons_succ]
                    clear hK
                    refine tk_move 11 41 (.tmp 52) (.tuple #[.agg (U z32).toArray, .int .i64 1]) rfl (by kernel_rfl) (by kernel_rfl) (by kernel_rfl) (fun _ _ _ _ h => h) rfl rfl rfl rfl z183.below ?_
                    simp only [Act.put, List.setIfInBounds_toArray, List.set_cons_zero, List.set_cons_succ]
                    refine tk_val 12 53 (.agg (U z32).toArray) rfl (by kernel_rfl) (by kernel_rfl) (by kernel_rfl) (fun _ _ _ _ h => h) rfl rfl (fun w _ => ev_extract (.tmp 41) 0 _ _ rfl rfl rfl) z183.below ?_
                    simp only [Act.put, List.setIfInBounds_toArray, List.set_cons_zero, List.set_cons_succ]
                    refine tk_val 13 54 (.int .i64 1) rfl (by kernel_rfl) (by kernel_rfl) (by kernel_rfl) (fun _ _ _ _ h => h) rfl rfl (fun w _ => ev_extract (.tmp 41) 1 _ _ rfl rfl rfl) z183.below ?_
                    simp only [Act.put, List.setIfInBounds_toArray, List.set_cons_zero, List.set_cons_succ]
                    refine wpAnyH_ready (rs := [15]) (by kernel_rfl) (by simp) ?_
                    refine AllReadyH.cons (o := _) rfl (fun K hK => ?_) AllReadyH.nil
                    · have z185 := z183.fin (U z32).toArray
                      refine to_store (.tmp 11) (.tmp 53) rfl rfl rfl v124.heap.size (flb 32 []) z32 rfl rfl (z183.box _ rfl).1 (by simp [flb]) rfl (hK.out _ _ z185 fun _ => ?_)
                      revert z185; generalize World.setRow v184 _ _ = v186; intro z185
                      clear hK
                      refine tk_assign 16 12 (.tmp 54) (.int .i64 1) rfl (by kernel_rfl) (by kernel_rfl) (by kernel_rfl) (fun _ _ _ _ h => h) rfl rfl rfl rfl z185 ?_
                      simp only [Act.put, List.setIfInBounds_toArray, List.set_cons_zero, List.set_cons_succ]
                      refine wpAnyH_done (by kernel_rfl) (NoPanic.normal ?_) _
                      have HE := Lib.hid z185
                      go_wp2_with fail
                      go_meet
                      exact ⟨_, rfl, rfl, HE.out⟩
        · have z187 := z0.mkbox
          refine to_alloc 11 rfl rfl rfl (hK.out _ _ z187.below fun _ => ?_)
          revert z187; generalize World.alloc v0 _ = v188; intro z187
          simp only [Act.put, List.setIfInBounds_toArray, List.set_cons_zero, List.set_cons_succ]
          clear hK
          refine wpAnyH_ready (rs := [4, 8]) (by kernel_rfl) (by simp) ?_
          refine AllReadyH.cons (o := _) rfl (fun K hK => ?_) (AllReadyH.cons (o := _) rfl (fun K hK => ?_) AllReadyH.nil)
          · have z189 := z187.nil
            refine to_bs0 46 rfl rfl rfl (hK.out _ _ z189.below fun _ => ?_)
            revert z189; generalize World.alloc v188 _ = v190; intro z189
            simp only [Act.put, List.setIfInBounds_toArray, List.set_cons_zero, List.set_cons_succ]
            clear hK
            refine wpAnyH_ready (rs := [6, 8]) (by kernel_rfl) (by simp) ?_
            refine AllReadyH.cons (o := _) rfl (fun K hK => ?_) (AllReadyH.cons (o := _) rfl (fun K hK => ?_) AllReadyH.nil)
            · refine to_app 48 (.tmp 46) (.tmp 47) rfl rfl rfl W9.heap.size (.slice (some ⟨v188.heap.size, 0, none⟩) 0 0) (· < W9.heap.size) [] P A3 c3 rfl rfl (z189.own _ _ rfl) (HDPW.out _ z189.below) (by simp; omega) z189.below.size (fun A193 c194 v192 hO hG hA => ?_)
              have z191 := z189.app hO hG hA
              refine hK.out _ _ z191.below fun _ => ?_
              clear hO hG hA
              simp only [Act.put, List.setIfInBounds_toArray, List.set_cons_zero, List.set_cons_succ]
              clear hK
              refine wpAnyH_ready (rs := [8]) (by kernel_rfl) (by simp) ?_
              refine AllReadyH.cons (o := _) rfl (fun K hK => ?_) AllReadyH.nil
              · have z195 := z191.mkrow
                refine to_bs1 50 (.tmp 49) d rfl rfl rfl rfl HDd.out (hK.out _ _ z195.below fun _ => ?_)
                revert z195; generalize World.alloc v192 _ = v196; intro z195
                simp only [Act.put, List.setIfInBounds_toArray, List.set_cons_zero, List.set_cons_succ]
                clear hK
                refine wpAnyH_ready (rs := [9]) (by kernel_rfl) (by simp) ?_
                refine AllReadyH.cons (o := _) rfl (fun K hK => ?_) AllReadyH.nil
                · refine to_app 51 (.tmp 48) (.tmp 50) rfl rfl rfl W9.heap.size (.slice A193 (([] : List (List UInt8)).length + P.length) c194) (· = v192.heap.size) ([] ++ P) [d] (some ⟨v192.heap.size, 0, none⟩) 1 rfl rfl (z195.own _ _ rfl) (DL.one (z195.row _ rfl).1 HDd.out) (by simp; omega) z195.below.size (fun A199 c200 v198 hO hG hA => ?_)
                  have z197 := z195.app hO hG hA
                  refine hK.out _ _ z197.below fun _ => ?_
                  clear hO hG hA
                  simp only [Act.put, List.setIfInBounds_toArray, List.set_cons_zero, List.set_cons_succ]
                  clear hK
                  refine wpAnyH_ready (rs := [10]) (by kernel_rfl) (by simp) ?_
                  refine AllReadyH.cons (o := _) rfl (fun K hK => ?_) AllReadyH.nil
                  · refine to_call 22 52 _ _ #[.agg (U d).toArray, .int .i64 i, .int .i64 L.length, (.slice A199 (([] ++ P : List (List UInt8)).length + [d].length) c200)] _ rfl rfl rfl rfl enters_Climb (CNO.out A199 c200 v198) (fun e v202 h5 => ⟨_, h5.1, ?_⟩)
                    have z201 := z197.step h5.2
                    refine hK.out _ _ z201.below fun _ => ?_
                    clear h5
                    simp only [Act.put, List.setIfInBounds_toArray, List.set_cons_zero, List.set_cons_succ]
                    clear hK
                    refine tk_move 11 41 (.tmp 52) (.tuple #[.agg (U z32).toArray, .int .i64 1]) rfl (by kernel_rfl) (by kernel_rfl) (by kernel_rfl) (fun _ _ _ _ h => h) rfl rfl rfl rfl z201.below ?_
                    simp only [Act.put, List.setIfInBounds_toArray, List.set_cons_zero, List.set_cons_succ]
                    refine tk_val 12 53 (.agg (U z32).toArray) rfl (by kernel_rfl) (by kernel_rfl) (by kernel_rfl) (fun _ _ _ _ h => h) rfl rfl (fun w _ => ev_extract (.tmp 41) 0 _ _ rfl rfl rfl) z201.below ?_
                    simp only [Act.put, List.setIfInBounds_toArray, List.set_cons_zero, List.set_cons_succ]
                    refine tk_val 13 54 (.int .i64 1) rfl (by kernel_rfl) (by kernel_rfl) (by kernel_rfl) (fun _ _ _ _ h => h) rfl rfl (fun w _ => ev_extract (.tmp 41) 1 _ _ rfl rfl rfl) z201.below ?_
                    simp only [Act.put, List.setIfInBounds_toArray, List.set_cons_zero, List.set_cons_succ]
                    refine wpAnyH_ready (rs := [15]) (by kernel_rfl) (by simp) ?_
                    refine AllReadyH.cons (o := _) rfl (fun K hK => ?_) AllReadyH.nil
                    · have z203 := z201.fin (U z32).toArray
                      refine to_store (.tmp 11) (.tmp 53) rfl rfl rfl v0.heap.size (flb 32 []) z32 rfl rfl (z201.box _ rfl).1 (by simp [flb]) rfl (hK.out _ _ z203 fun _ => ?_)
                      revert z203; generalize World.setRow v202 _ _ = v204; intro z203
                      clear hK
                      refine tk_assign 16 12 (.tmp 54) (.int .i64 1) rfl (by kernel_rfl) (by kernel_rfl) (by kernel_rfl) (fun _ _ _ _ h => h) rfl rfl rfl rfl z203 ?_
                      simp only [Act.put, List.setIfInBounds_toArray, List.set_cons_zero, List.set_cons_succ]
                      refine wpAnyH_done (by kernel_rfl) (NoPanic.normal ?_) _
                      have HE := Lib.hid z203
                      go_wp2_with fail
                      go_meet
                      exact ⟨_, rfl, rfl, HE.out⟩
            · have z205 := z189.mkrow
              refine to_bs1 50 (.tmp 49) d rfl rfl rfl rfl HDd.out (hK.out _ _ z205.below fun _ => ?_)
              revert z205; generalize World.alloc v190 _ = v206; intro z205
              simp only [Act.put, List.setIfInBounds_toArray, List.set_cons_zero, List.set_cons_succ]
              clear hK
              refine wpAnyH_ready (rs := [6]) (by kernel_rfl) (by simp) ?_
              refine AllReadyH.cons (o := _) rfl (fun K hK => ?_) AllReadyH.nil
              · refine to_app 48 (.tmp 46) (.tmp 47) rfl rfl rfl W9.heap.size (.slice (some ⟨v188.heap.size, 0, none⟩) 0 0) (· < W9.heap.size) [] P A3 c3 rfl rfl (z205.own _ _ rfl) (HDPW.out _ z205.below) (by simp; omega) z205.below.size (fun A209 c210 v208 hO hG hA => ?_)
                have z207 := z205.app hO hG hA
                refine hK.out _ _ z207.below fun _ => ?_
                clear hO hG hA
                simp only [Act.put, List.setIfInBounds_toArray, List.set_cons_zero, List.set_cons_succ]
                clear hK
                refine wpAnyH_ready (rs := [9]) (by kernel_rfl) (by simp) ?_
                refine AllReadyH.cons (o := _) rfl (fun K hK => ?_) AllReadyH.nil
                · refine to_app 51 (.tmp 48) (.tmp 50) rfl rfl rfl W9.heap.size (.slice A209 (([] : List (List UInt8)).length + P.length) c210) (· = v190.heap.size) ([] ++ P) [d] (some ⟨v190.heap.size, 0, none⟩) 1 rfl rfl (z207.own _ _ rfl) (DL.one (z207.row _ rfl).1 HDd.out) (by simp; omega) z207.below.size (fun A213 c214 v212 hO hG hA => ?_)
                  have z211 := z207.app hO hG hA
                  refine hK.out _ _ z211.below fun _ => ?_
                  clear hO hG hA
                  simp only [Act.put, List.setIfInBounds_toArray, List.set_cons_zero, List.set_cons_succ]
                  clear hK
                  refine wpAnyH_ready (rs := [10]) (by kernel_rfl) (by simp) ?_
                  refine AllReadyH.cons (o := _) rfl (fun K hK => ?_) AllReadyH.nil
                  · refine to_call 22 52 _ _ #[.agg (U d).toArray, .int .i64 i, .int .i64 L.length, (.slice A213 (([] ++ P : List (List UInt8)).length + [d].length) c214)] _ rfl rfl rfl rfl enters_Climb (CNO.out A213 c214 v212) (fun e v216 h5 => ⟨_, h5.1, ?_⟩)
                    have z215 := z211.step h5.2
                    refine hK.out _ _ z215.below fun _ => ?_
                    clear h5
                    simp only [Act.put, List.setIfInBounds_toArray, List.set_cons_zero, List.set_cons_succ]
                    clear hK
                    refine tk_move 11 41 (.tmp 52) (.tuple #[.agg (U z32).toArray, .int .i64 1]) rfl (by kernel_rfl) (by kernel_rfl) (by kernel_rfl) (fun _ _ _ _ h => h) rfl rfl rfl rfl z215.below ?_
                    simp only [Act.put, List.setIfInBounds_toArray, List.set_cons_zero, List.set_cons_succ]
                    refine tk_val 12 53 (.agg (U z32).toArray) rfl (by kernel_rfl) (by kernel_rfl) (by kernel_rfl) (fun _ _ _ _ h => h) rfl rfl (fun w _ => ev_extract (.tmp 41) 0 _ _ rfl rfl rfl) z215.below ?_
                    simp only [Act.put, List.setIfInBounds_toArray, List.set_cons_zero, List.set_cons_succ]
                    refine tk_val 13 54 (.int .i64 1) rfl (by kernel_rfl) (by kernel_rfl) (by kernel_rfl) (fun _ _ _ _ h => h) rfl rfl (fun w _ => ev_extract (.tmp 41) 1 _ _ rfl rfl rfl) z215.below ?_
                    simp only [Act.put, List.setIfInBounds_toArray, List.set_cons_zero, List.set_cons_succ]
                    refine wpAnyH_ready (rs := [15]) (by kernel_rfl) (by simp) ?_
                    refine AllReadyH.cons (o := _) rfl (fun K hK => ?_) AllReadyH.nil
                    · have z217 := z215.fin (U z32).toArray
                      refine to_store (.tmp 11) (.tmp 53) rfl rfl rfl v0.heap.size (flb 32 []) z32 rfl rfl (z215.box _ rfl).1 (by simp [flb]) rfl (hK.out _ _ z217 fun _ => ?_)
                      revert z217; generalize World.setRow v216 _ _ = v218; intro z217
                      clear hK
                      refine tk_assign 16 12 (.tmp 54) (.int .i64 1) rfl (by kernel_rfl) (by kernel_rfl) (by kernel_rfl) (fun _ _ _ _ h => h) rfl rfl rfl rfl z217 ?_
                      simp only [Act.put, List.setIfInBounds_toArray, List.set_cons_zero, List.set_cons_succ]
                      refine wpAnyH_done (by kernel_rfl) (NoPanic.normal ?_) _
                      have HE := Lib.hid z217
                      go_wp2_with fail
                      go_meet
                      exact ⟨_, rfl, rfl, HE.out⟩
          · have z219 := z187.mkrow
            refine to_bs1 50 (.tmp 49) d rfl rfl rfl rfl HDd.out (hK.out _ _ z219.below fun _ => ?_)
            revert z219; generalize World.alloc v188 _ = v220; intro z219
            simp only [Act.put, List.setIfInBounds_toArray, List.set_cons_zero, List.set_cons_succ]
            clear hK
            refine wpAnyH_ready (rs := [4]) (by kernel_rfl) (by simp) ?_
            refine AllReadyH.cons (o := _) rfl (fun K hK => ?_) AllReadyH.nil
            · have z221 := z219.nil
              refine to_bs0 46 rfl rfl rfl (hK.out _ _ z221.below fun _ => ?_)
              revert z221; generalize World.alloc v220 _ = v222; intro z221
              simp only [Act.put, List.setIfInBounds_toArray, List.set_cons_zero, List.set_cons_succ]
              clear hK
              refine wpAnyH_ready (rs := [6]) (by kernel_rfl) (by simp) ?_
              refine AllReadyH.cons (o := _) rfl (fun K hK => ?_) AllReadyH.nil
              · refine to_app 48 (.tmp 46) (.tmp 47) rfl rfl rfl W9.heap.size (.slice (some ⟨v220.heap.size, 0, none⟩) 0 0) (· < W9.heap.size) [] P A3 c3 rfl rfl (z221.own _ _ rfl) (HDPW.out _ z221.below) (by simp; omega) z221.below.size (fun A225 c226 v224 hO hG hA => ?_)
                have z223 := z221.app hO hG hA
                refine hK.out _ _ z223.below fun _ => ?_
                clear hO hG hA
                simp only [Act.put, List.setIfInBounds_toArray, List.set_cons_zero, List.set_cons_succ]
                clear hK
                refine wpAnyH_ready (rs := [9]) (by kernel_rfl) (by simp) ?_
                refine AllReadyH.cons (o := _) rfl (fun K hK => ?_) AllReadyH.nil
                · refine to_app 51 (.tmp 48) (.tmp 50) rfl rfl rfl W9.heap.size (.slice A225 (([] : List (List UInt8)).length + P.length) c226) (· = v188.heap.size) ([] ++ P) [d] (some ⟨v188.heap.size, 0, none⟩) 1 rfl rfl (z223.own _ _ rfl) (DL.one (z223.row _ rfl).1 HDd.out) (by simp; omega) z223.below.size (fun A229 c230 v228 hO hG hA => ?_)
                  have z227 := z223.app hO hG hA
                  refine hK.out _ _ z227.below fun _ => ?_
                  clear hO hG hA
                  simp only [Act.put, List.setIfInBounds_toArray, List.set_cons_zero, List.set_cons_succ]
                  clear hK
                  refine wpAnyH_ready (rs := [10]) (by kernel_rfl) (by simp) ?_
                  refine AllReadyH.cons (o := _) rfl (fun K hK => ?_) AllReadyH.nil
                  · refine to_call 22 52 _ _ #[.agg (U d).toArray, .int .i64 i, .int .i64 L.length, (.slice A229 (([] ++ P : List (List UInt8)).length + [d].length) c230)] _ rfl rfl rfl rfl enters_Climb (CNO.out A229 c230 v228) (fun e v232 h5 => ⟨_, h5.1, ?_⟩)
                    have z231 := z227.step h5.2
                    refine hK.out _ _ z231.below fun _ => ?_
                    clear h5
                    simp only [Act.put, List.setIfInBounds_toArray, List.set_cons_zero, List.set_cons_succ]
                    clear hK
                    refine tk_move 11 41 (.tmp 52) (.tuple #[.agg (U z32).toArray, .int .i64 1]) rfl (by kernel_rfl) (by kernel_rfl) (by kernel_rfl) (fun _ _ _ _ h => h) rfl rfl rfl rfl z231.below ?_
                    simp only [Act.put, List.setIfInBounds_toArray, List.set_cons_zero, List.set_cons_succ]
                    refine tk_val 12 53 (.agg (U z32).toArray) rfl (by kernel_rfl) (by kernel_rfl) (by kernel_rfl) (fun _ _ _ _ h => h) rfl rfl (fun w _ => ev_extract (.tmp 41) 0 _ _ rfl rfl rfl) z231.below ?_
                    simp only [Act.put, List.setIfInBounds_toArray, List.set_cons_zero, List.set_cons_succ]
                    refine tk_val 13 54 (.int .i64 1) rfl (by kernel_rfl) (by kernel_rfl) (by kernel_rfl) (fun _ _ _ _ h => h) rfl rfl (fun w _ => ev_extract (.tmp 41) 1 _ _ rfl rfl rfl) z231.below ?_
                    simp only [Act.put, List.setIfInBounds_toArray, List.set_cons_zero, List.set_cons_succ]
                    refine wpAnyH_ready (rs := [15]) (by kernel_rfl) (by simp) ?_
                    refine AllReadyH.cons (o := _) rfl (fun K hK => ?_) AllReadyH.nil
                    · have z233 := z231.fin (U z32).toArray
                      refine to_store (.tmp 11) (.tmp 53) rfl rfl rfl v0.heap.size (flb 32 []) z32 rfl rfl (z231.box _ rfl).1 (by simp [flb]) rfl (hK.out _ _ z233 fun _ => ?_)
                      revert z233; generalize World.setRow v232 _ _ = v234; intro z233
                      clear hK
                      refine tk_assign 16 12 (.tmp 54) (.int .i64 1) rfl (by kernel_rfl) (by kernel_rfl) (by kernel_rfl) (fun _ _ _ _ h => h) rfl rfl rfl rfl z233 ?_
                      simp only [Act.put, List.setIfInBounds_toArray, List.set_cons_zero, List.set_cons_succ]
                      refine wpAnyH_done (by kernel_rfl) (NoPanic.normal ?_) _
                      have HE := Lib.hid z233
                      go_wp2_with fail
                      go_meet
                      exact ⟨_, rfl, rfl, HE.out⟩
      case rest =>
        obtain ⟨g11, rfl, rfl, hbx⟩ := hcut
        have BBc := Lib.hid (BB9.out.trans (hbx.mono BB9.out.size))
        have l9 := RowB.range (R9.out.keep (hbx.block _ hz9))
        have l4 := RowB.range (KEEP2.out _ BBc.out).2.2.1
        have q1 := eq_self T TL.out
        have e5 : ¬ 5 < P.length := by omega
        have e6 : ¬ (5 : Int) < P.length := by omega
        clear hbx
        go_wp2_with (first
          | (refine load_W rfl (.tmp 9) rfl w8.heap.size 0 T rfl l9 TL.out ?_)
          | (refine load_W rfl (.tmp 4) rfl w3.heap.size 0 T rfl l4 TL.out ?_))
        go_roundw
        case rel => exact ⟨i + 1, by omega, by go_num, BBc.out⟩
        case measure => simp [intOf]; omega
    · have hfin := (KEEP2.out _ HBR.out).2.2.2
      go_wp2_with fail
      go_ret
      exact ⟨rfl, hfin⟩
end Go.Proofs.YtgojodldnodjpaaDoor
