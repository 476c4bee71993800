/- Digest: DigestChains. -/
import Derived.Test.YtcendlecgnfblaaDoorJU
import Derived.Test.YtcendlecgnfblaaDoorJJ
import Derived.Test.YtcendlecgnfblaaDoorJK
import Derived.Test.YtcendlecgnfblaaDoorJV
import Derived.Deep.RegionHeld3
import Derived.Deep.CutRange
namespace Go.Proofs.YtcendlecgnfblaaDoor
open Go.ChangeShapes Go.WideShapes Go.ChangeAt Go.WideElems Go.RowKit

section
variable {ops : Array Oper} {o : Oper} {a : Act} {K : Act → World → Prop} {Q : Exit → Act → World → Prop} {E : Prop} {w : World}
theorem to_load (n : Nat) (x : Operand) (hgd : o.guard = none) (ho : o.op = .load 26 x) (hd : o.dst = some n)
    (b ofs : Nat) (l : List UInt8) (hx : a.eval x = .pointer (some ⟨b, ofs, none⟩)) (h : w.rangeAt b ofs (U l)) (hl : l.length = 32)
    (hK : K (a.put (some n) (.agg (U l).toArray)) w) : if Region.wanted o (yielded ops a.tmps) = true then Oper.wp Tryd.prog o a w K Q else E := by
  have hw : Region.wanted o (yielded ops a.tmps) = true := by simp [Region.wanted, hgd]
  rw [if_pos hw]
  exact wp_load_mid 26 x ho b ofs hx (U l) _ h Tryd.underlying26 rfl (by rw [sz32, U_length, hl]) (by rw [hd]; exact hK)
theorem wp_bs0b (n : Nat) (ho : o.op = .buildSlice 22 0 #[]) (hd : o.dst = some n)
    (hK : K (a.put (some n) (.slice (some ⟨w.heap.size, 0, none⟩) 0 0)) (w.alloc (.cells #[] 5))) : Oper.wp Tryd.prog o a w K Q := by
  unfold Oper.wp execOp
  simp only [ho]
  go_simp
  exact hK
theorem wp_call (k : Nat) (n : Nat) (xs : Array Operand) (ts : Array TypeId) (vs : Array Value) (R : Ending → World → Prop) (ho : o.op = .call { callee := .value (.func k), args := xs, argTypes := ts }) (hd : o.dst = some n)
    (hx : xs.toList.map a.eval = vs.toList) (he : Enters Tryd.prog k) (C : Calls Tryd.prog k vs w R) (hK : ∀ e w', R e w' → ∃ v, e = .returned v ∧ K (a.put (some n) v) w') : Oper.wp Tryd.prog o a w K Q := by
  have hrun : (execOp a.eval o).run Tryd.prog w = .ok (.enter k vs) w := by
    obtain rfl : xs.map a.eval = vs := by apply Array.toList_inj.1; simpa using hx
    simp [execOp, ho, resolve, invoke, go_sem]
    exact he _ _
  unfold Oper.wp
  rw [hrun]
  simp only [Oper.upon]
  refine C.mono fun e w' hR => ?_
  obtain ⟨v, rfl, hk⟩ := hK e w' hR
  rw [hd]
  exact hk
end
section
variable {md : Region.Mode} {ops : Array Oper} {Q : Exit → Act → World → Prop} {S : World → Prop} {fuel : Nat} {listed : Array Bool} {a : Act} {w : World}
theorem tkw_val (i n : Nat) (v : Value) {oi : Oper} (hi : ops[i]? = some oi)
    (hs : Region.noSelect ops = true) (hf : Region.free md ops listed i = true) (hr : (Region.ready md ops listed).contains i = true) (hQ : ∀ c a v w, Q (.panic c) (a.put (some n) v) w → Q (.panic c) a w)
    (hw : Region.wanted oi (yielded ops a.tmps) = true) (hd : oi.dst = some n) (hy : ∀ w, S w → (execOp a.eval oi).run Tryd.prog w = .ok (.value v) w) (h0 : S w)
    (h : wpAnyH Tryd.prog md ops Q S fuel (listed.setIfInBounds i true) (a.put (some n) v) w) : wpAnyH Tryd.prog md ops Q S (fuel + 1) listed a w :=
  wpAnyH_take (i := i) (oi := oi) (v := v) hi hs hf hr (fun c a w hq => hQ c a _ w (by rw [hd] at hq; exact hq)) (.inl ⟨hw, hy⟩) h0 (by rw [hd]; exact h)
theorem tkw_load (i n : Nat) (x : Operand) (b ofs : Nat) (l : List UInt8) {oi : Oper} (hi : ops[i]? = some oi)
    (hs : Region.noSelect ops = true) (hf : Region.free md ops listed i = true) (hr : (Region.ready md ops listed).contains i = true) (hQ : ∀ c a v w, Q (.panic c) (a.put (some n) v) w → Q (.panic c) a w)
    (hw : Region.wanted oi (yielded ops a.tmps) = true) (ho : oi.op = .load 26 x) (hd : oi.dst = some n) (hx : a.eval x = .pointer (some ⟨b, ofs, none⟩)) (hS : ∀ w, S w → w.rangeAt b ofs (U l)) (hl : l.length = 32) (h0 : S w)
    (h : wpAnyH Tryd.prog md ops Q S fuel (listed.setIfInBounds i true) (a.put (some n) (.agg (U l).toArray)) w) : wpAnyH Tryd.prog md ops Q S (fuel + 1) listed a w :=
  wpAnyH_take (i := i) (oi := oi) (v := .agg (U l).toArray) hi hs hf hr (fun c a w hq => hQ c a _ w (by rw [hd] at hq; exact hq))
    (yieldsIf_load_mid hw _ x ho b ofs hx (U l) _ hS Tryd.underlying26 rfl (by rw [sz32, U_length, hl])) h0 (by rw [hd]; exact h)
end
section
variable {o : Oper} {a : Act} {w : World}
theorem ev_neq (x y : Operand) (l : List UInt8) (hl : l.length = 32) (ho : o.op = .binOp .neq 26 x y 26) (hx : a.eval x = .agg (U l).toArray) (hy : a.eval y = .agg (U l).toArray) :
    (execOp a.eval o).run Tryd.prog w = .ok (.value (.bool false)) w := by
  have q1 := eq_self l hl
  unfold execOp
  simp only [ho, hx, hy]
  go_simp
theorem ev_arr (x : Operand) (g : Nat) (ho : o.op = .slice 26 x none none none) (hx : a.eval x = .pointer (some ⟨g, 0, none⟩)) :
    (execOp a.eval o).run Tryd.prog w = .ok (.value (.slice (some ⟨g, 0, none⟩) 32 32)) w := by
  unfold execOp
  simp only [ho, hx, Option.map]
  go_simp
theorem ev_pick (c x y : Operand) (ho : o.op = .pick c x y) (hc : a.eval c = .bool false) (hy : a.eval y = .bool false) :
    (execOp a.eval o).run Tryd.prog w = .ok (.value (.bool false)) w := by
  unfold execOp
  simp only [ho, hc, hy]
  go_simp
end

/-- the two chains, the list, and the boxes of a round -/
structure ChR (w2 : World) (g5 g6 : Nat) (lo hi : Nat) (L : List (List UInt8)) (A : Option Addr) (c : Nat) (E5 E6 : List UInt8) (ww : World) : Prop where
  st : St w2 (some (g5, E5)) (some (g6, E6)) ww
  dl : DL ww (fun i => lo ≤ i ∧ i < hi) L A c
  size : hi ≤ ww.heap.size
section
variable {w2 ww w' : World} {g5 g6 lo hi : Nat} {L : List (List UInt8)} {A : Option Addr} {c : Nat} {E5 E6 : List UInt8}
theorem ChR.step (h : ChR w2 g5 g6 lo hi L A c E5 E6 ww) (hb : Below ww.heap.size ww w') : ChR w2 g5 g6 lo hi L A c E5 E6 w' :=
  ⟨h.st.step hb, h.dl.keep fun i hi => ⟨hi, hb.block i (Nat.lt_of_lt_of_le hi.2 h.size)⟩, Nat.le_trans h.size hb.size⟩
theorem ChR.five (h : ChR w2 g5 g6 lo hi L A c E5 E6 ww) : RowB ww g5 26 E5 := (h.st.one _ _ rfl).1
theorem ChR.six (h : ChR w2 g5 g6 lo hi L A c E5 E6 ww) : RowB ww g6 26 E6 := (h.st.two _ _ rfl).1
end
structure ChS (w2 : World) (g5 g6 g8 g9 : Nat) (lo hi : Nat) (L : List (List UInt8)) (A : Option Addr) (c : Nat) (d1 E E5 E6 : List UInt8) (ww : World) : Prop where
  core : ChR w2 g5 g6 lo hi L A c E5 E6 ww
  eight : RowB ww g8 26 d1
  nine : RowB ww g9 26 E
  lo5 : g5 < lo
  lo6 : g6 < lo
  hi8 : hi ≤ g8
  hi9 : hi ≤ g9
  lohi : lo ≤ hi
section
variable {w2 ww w' : World} {g5 g6 g8 g9 lo hi : Nat} {L : List (List UInt8)} {A : Option Addr} {c : Nat} {d1 E E5 E6 : List UInt8}
theorem ChS.st (h : ChS w2 g5 g6 g8 g9 lo hi L A c d1 E E5 E6 ww) : St w2 (some (g5, E5)) (some (g6, E6)) ww := h.core.st
theorem ChS.five (h : ChS w2 g5 g6 g8 g9 lo hi L A c d1 E E5 E6 ww) : RowB ww g5 26 E5 := h.core.five
theorem ChS.six (h : ChS w2 g5 g6 g8 g9 lo hi L A c d1 E E5 E6 ww) : RowB ww g6 26 E6 := h.core.six
theorem ChS.step (h : ChS w2 g5 g6 g8 g9 lo hi L A c d1 E E5 E6 ww) (hb : Below ww.heap.size ww w') : ChS w2 g5 g6 g8 g9 lo hi L A c d1 E E5 E6 w' :=
  ⟨h.core.step hb, h.eight.keep (hb.block _ h.eight.lt), h.nine.keep (hb.block _ h.nine.lt), h.lo5, h.lo6, h.hi8, h.hi9, h.lohi⟩
theorem ChS.drew (h : ChS w2 g5 g6 g8 g9 lo hi L A c d1 E E5 E6 ww) : ChS w2 g5 g6 g8 g9 lo hi L A c d1 E E5 E6 ww.drew := h.step (Below.refl _ _).drew
theorem ChS.set5 (h : ChS w2 g5 g6 g8 g9 lo hi L A c d1 E E5 E6 ww) (l : List UInt8) : ChS w2 g5 g6 g8 g9 lo hi L A c d1 E l E6 (ww.setRow g5 (U l).toArray) := by
  have h1 := h.lo5; have h2 := h.hi8; have h3 := h.hi9; have h4 := h.lohi
  exact ⟨⟨h.st.set1 l, h.core.dl.keep fun i hi => ⟨hi, setRow_other _ _ _ _ (by omega)⟩, by rw [setRow_size]; exact h.core.size⟩, h.eight.keep (setRow_other _ _ _ _ (by omega)), h.nine.keep (setRow_other _ _ _ _ (by omega)), h.lo5, h.lo6, h.hi8, h.hi9, h.lohi⟩
theorem ChS.set6 (h : ChS w2 g5 g6 g8 g9 lo hi L A c d1 E E5 E6 ww) (l : List UInt8) : ChS w2 g5 g6 g8 g9 lo hi L A c d1 E E5 l (ww.setRow g6 (U l).toArray) := by
  have h1 := h.lo6; have h2 := h.hi8; have h3 := h.hi9; have h4 := h.lohi
  exact ⟨⟨h.st.set2 l, h.core.dl.keep fun i hi => ⟨hi, setRow_other _ _ _ _ (by omega)⟩, by rw [setRow_size]; exact h.core.size⟩, h.eight.keep (setRow_other _ _ _ _ (by omega)), h.nine.keep (setRow_other _ _ _ _ (by omega)), h.lo5, h.lo6, h.hi8, h.hi9, h.lohi⟩
end
theorem enters_Chain : Enters Tryd.prog 25 := enters_of Tryd.func25 (by kernel_rfl) rfl
theorem enters_rChain : Enters Tryd.prog 26 := enters_of Tryd.func26 (by kernel_rfl) rfl
theorem enters_Tagged : Enters Tryd.prog 14 := enters_of Tryd.func14 (by kernel_rfl) rfl

set_option maxRecDepth 100000 in
set_option maxHeartbeats 32000000 in
theorem chains_all (d : List UInt8) (l : List UInt8) (A : Option Addr) (cap : Nat) (w : World) (hd : d.length = 32) (hl : Byt w (· < w.heap.size) l A cap) (hk : KR w Kt) :
    Calls Tryd.prog 10 #[.agg (U d).toArray, .slice A l.length cap] w fun e w' => e = .returned (.bool true) ∧ Below w.heap.size w w' := by
  have HL := Lib.hid hl
  have HK := Lib.hid hk
  have HD := Lib.hid hd
  have hlt0 := hk.lt
  clear hl hk hd
  go_enter Tryd.func10, Tryd.ntmps10
  go_wp2_with fail
  generalize hW1 : w.alloc _ = W1
  obtain ⟨h0, hb1, hz1⟩ := box1 w (U d).toArray 26 W1 hW1
  clear hW1
  have hlt1 : w.heap.size < W1.heap.size := by omega
  have R1 := Lib.hid (show RowB W1 w.heap.size 26 d from h0)
  have HB1 := Lib.hid hb1
  have S0 := sane_all W1 (HK.out.keep (hb1.block 0 hlt0))
  clear h0 hb1 hz1
  refine S0.mono ?_
  rintro e w2 ⟨rfl, hb2⟩
  have hz2 := hb2.size
  have hr2 : RowB w2 w.heap.size 26 d := R1.out.keep (hb2.block _ hlt1)
  have HB2 := Lib.hid (HB1.out.trans (hb2.mono (by omega)))
  clear S0 R1 HB1 hb2
  go_upto_region 3 with fail
  go_cut [5, 6] from 11 to 13 (fun x y wx => ∃ g5 g6 : Nat, x = .pointer (some ⟨g5, 0, none⟩) ∧ y = .pointer (some ⟨g6, 0, none⟩) ∧ St w2 (some (g5, d)) (some (g6, d)) wx)
  case first =>
    go_wp2_with fail
    have hst := (St.base w2).new12.drew
    have HS := Lib.hid hst
    have hu1 : (U d).length = 32 := by rw [U_length, HD.out]
    obtain ⟨⟨f1, f2⟩, ⟨f3, f4⟩, ⟨f5, f6⟩, ⟨f7, f8⟩⟩ := hst.stores d d HD.out HD.out
    have hu : Tryd.prog.underlying 26 = _ := Tryd.underlying26
    have hi : (Tryd.prog.info? 26).map (·.size) = some (U d).length := by rw [sz32, U_length, HD.out]
    have p0 : w2.drew.rangeAt w.heap.size 0 (U d) := RowB.range (w := w2.drew) hr2
    have hr3 : RowB w2.drew w.heap.size 26 d := hr2
    have l0 := hr3.ld HD.out
    have l1 := RowB.ld (((St.base w2).new1.drew).below.block _ hr2.lt |>.trans hr2) HD.out
    have l2 := RowB.ld (((St.base w2).new12.drew).below.block _ hr2.lt |>.trans hr2) HD.out
    clear hst l0 l1 l2
    refine wp_region_noPanic ?_
    refine wp_region_held_drew (S := fun w' => w'.rangeAt w.heap.size 0 (U d)) (by kernel_rfl) ?_ (fun hHeld => ?_)
    · exact p0
    refine tk_load 0 12 (.tmp 2) w.heap.size 0 d rfl (by kernel_rfl) (by kernel_rfl) (by kernel_rfl) (fun _ _ _ _ h => h) rfl rfl rfl rfl (fun _ h => h) HD.out hHeld ?_
    refine tk_load 1 13 (.tmp 2) w.heap.size 0 d rfl (by kernel_rfl) (by kernel_rfl) (by kernel_rfl) (fun _ _ _ _ h => h) rfl rfl rfl rfl (fun _ h => h) HD.out hHeld ?_
    have hst : St w2 none none w2.drew := (St.base w2).drew
    have HR := Lib.hid (show ∀ ww, Below w2.heap.size w2 ww → ww.rangeAt w.heap.size 0 (U d) from fun ww h => RowB.range ((h.block _ hr2.lt).trans hr2))
    clear hHeld p0 hr3 f1 f2 f3 f4 f5 f6 f7 f8
    refine wpAnyH_ready (rs := [2, 3]) (by kernel_rfl) (by simp) ?_
    refine AllReadyH.cons (o := _) rfl (fun K hK => ?_) (AllReadyH.cons (o := _) rfl (fun K hK => ?_) AllReadyH.nil)
    · have h1 := hst.new1
      refine to_alloc 5 rfl rfl rfl (hK.out _ _ (HR.out _ h1.below) fun _ => ?_)
      refine wpAnyH_ready (rs := [3]) (by kernel_rfl) (by simp) ?_
      refine AllReadyH.cons (o := _) rfl (fun K hK => ?_) AllReadyH.nil
      have h2 := h1.new2
      refine to_alloc 6 rfl rfl rfl (hK.out _ _ (HR.out _ h2.below) fun _ => ?_)
      refine wpAnyH_ready (rs := [4]) (by kernel_rfl) (by simp) ?_
      refine AllReadyH.cons (o := _) rfl (fun K hK => ?_) AllReadyH.nil
      have h3 := h2.set1 d
      refine to_store (.tmp 5) (.tmp 12) rfl rfl rfl _ _ d rfl rfl (h2.one _ _ rfl).1 (by simp [flb]) HD.out (hK.out _ _ (HR.out _ h3.below) fun _ => ?_)
      refine wpAnyH_ready (rs := [5]) (by kernel_rfl) (by simp) ?_
      refine AllReadyH.cons (o := _) rfl (fun K hK => ?_) AllReadyH.nil
      have h4 := h3.set2 d
      refine to_store (.tmp 6) (.tmp 13) rfl rfl rfl _ _ d rfl rfl (h3.two _ _ rfl).1 (by simp [flb]) HD.out (hK.out _ _ (HR.out _ h4.below) fun _ => ?_)
      refine wpAnyH_done (by kernel_rfl) (NoPanic.normal ?_) _
      simp only [Act.put, List.setIfInBounds_toArray, List.set_cons_zero, List.set_cons_succ]
      have H4 := Lib.hid h4
      clear h1 h2 h3 h4 hst
      go_wp2_with fail
      go_meet
      exact ⟨_, _, rfl, rfl, H4.out⟩
    · have h1 := hst.new2
      refine to_alloc 6 rfl rfl rfl (hK.out _ _ (HR.out _ h1.below) fun _ => ?_)
      refine wpAnyH_ready (rs := [2]) (by kernel_rfl) (by simp) ?_
      refine AllReadyH.cons (o := _) rfl (fun K hK => ?_) AllReadyH.nil
      have h2 := h1.new1
      refine to_alloc 5 rfl rfl rfl (hK.out _ _ (HR.out _ h2.below) fun _ => ?_)
      refine wpAnyH_ready (rs := [4]) (by kernel_rfl) (by simp) ?_
      refine AllReadyH.cons (o := _) rfl (fun K hK => ?_) AllReadyH.nil
      have h3 := h2.set1 d
      refine to_store (.tmp 5) (.tmp 12) rfl rfl rfl _ _ d rfl rfl (h2.one _ _ rfl).1 (by simp [flb]) HD.out (hK.out _ _ (HR.out _ h3.below) fun _ => ?_)
      refine wpAnyH_ready (rs := [5]) (by kernel_rfl) (by simp) ?_
      refine AllReadyH.cons (o := _) rfl (fun K hK => ?_) AllReadyH.nil
      have h4 := h3.set2 d
      refine to_store (.tmp 6) (.tmp 13) rfl rfl rfl _ _ d rfl rfl (h3.two _ _ rfl).1 (by simp [flb]) HD.out (hK.out _ _ (HR.out _ h4.below) fun _ => ?_)
      refine wpAnyH_done (by kernel_rfl) (NoPanic.normal ?_) _
      simp only [Act.put, List.setIfInBounds_toArray, List.set_cons_zero, List.set_cons_succ]
      have H4 := Lib.hid h4
      clear h1 h2 h3 h4 hst
      go_wp2_with fail
      go_meet
      exact ⟨_, _, rfl, rfl, H4.out⟩
  case rest =>
    obtain ⟨g5, g6, rfl, rfl, hst⟩ := hcut
    have hbc := hst.below
    have hzc := hbc.size
    have hl5 := (hst.one _ _ rfl).1.lt
    have hl6 := (hst.two _ _ rfl).1.lt
    have HST := Lib.hid hst
    have HKR := Lib.hid (show ∀ ww, Below w2.heap.size w2 ww → KR ww Kt from fun ww h => HK.out.keep ((h.block 0 (by omega)).trans (HB2.out.block 0 hlt0)))
    have HBW := Lib.hid (show ∀ ww, Below w2.heap.size w2 ww → Below w.heap.size w ww from fun ww h => HB2.out.trans (h.mono (by omega)))
    have D0 := Lib.hid (digestsOf_all l A cap wc (HL.out.keep fun i hi => ⟨by omega, (hbc.block i (by omega)).trans (HB2.out.block i hi)⟩))
    clear hst hbc hr2
    go_wp2_with fail
    refine D0.out.mono ?_
    rintro e w4 ⟨v, L, rfl, ho, hll, hb4⟩
    obtain ⟨A4, c4, rfl, hdl⟩ := ho.dl
    have hz4 := hb4.size
    have hn24 : L.length ≤ 24 := by omega
    have hcap := hdl.1
    have hcm := hdl.2.1
    have H4 := Lib.hid (show ChR w2 g5 g6 wc.heap.size w4.heap.size L A4 c4 d d w4 from ⟨HST.out.step hb4, hdl, Nat.le_refl _⟩)
    obtain ⟨lo, hlo⟩ : ∃ lo, lo = wc.heap.size := ⟨_, rfl⟩
    obtain ⟨hi, hhi⟩ : ∃ hi, hi = w4.heap.size := ⟨_, rfl⟩
    rw [← hlo] at H4 hl5 hl6 hz4
    rw [← hhi] at H4 hz4
    clear hlo hhi ho hdl hb4 HST D0 hll
    go_wp2_with fail
    go_loopw [17] (fun x wr => ∃ (i : Nat) (E : List UInt8), i ≤ L.length ∧ x = .int .i64 i ∧ E.length = 32 ∧ ChR w2 g5 g6 lo hi L A4 c4 E E wr) (fun x _ => L.length - (intOf x).toNat)
    case atStart => exact ⟨0, d, Nat.zero_le _, rfl, HD.out, H4.out⟩
    case round =>
      obtain ⟨i, E, hi1, rfl, he0, hc⟩ := hrel
      have HE0 := Lib.hid he0
      have HR := Lib.hid hc
      have hzr := hc.size
      clear hc he0
      by_cases hlt : i < L.length
      · obtain ⟨bb, oo, rfl, hS2, hat⟩ := HR.out.dl.2.2.2.2 (by omega)
        obtain ⟨d1, hd1⟩ : ∃ d1, L[i]? = some d1 := ⟨_, List.getElem?_eq_getElem hlt⟩
        have hrd := hat i d1 hd1
        have HD1 := Lib.hid (HR.out.dl.2.2.2.1 d1 (List.mem_of_getElem? hd1))
        clear hat hd1
        have hn6 : RowB (wr.alloc (.cells (U (flb 32 [])).toArray 26)) wr.heap.size 26 (flb 32 []) := heap_alloc_new wr _
        have HR6 := Lib.hid (hn6.setRow d1)
        have HB6 : Hid (Below wr.heap.size wr ((wr.alloc (.cells (U (flb 32 [])).toArray 26)).setRow wr.heap.size (U d1).toArray)) := Lib.hid (below_setRow ((Below.refl _ _).alloc (Nat.le_refl _) _) (Nat.le_refl _) _)
        have hi2 : (i : Int) < L.length := by omega
        go_upto_region 7 with (first
          | (refine load_D rfl (.tmp 19) rfl bb (oo + i * 32) d1 rfl hrd HD1.out ?_)
          | (refine store_B rfl (.tmp 8) (.tmp 20) rfl wr.heap.size (flb 32 []) d1 rfl rfl 26 hn6 HD1.out (by simp [flb]) ?_))
        generalize hW6 : World.setRow _ _ _ = W6
        have R6 : Hid (RowB W6 wr.heap.size 26 d1) := Lib.hid (by rw [← hW6]; exact HR6.out)
        have B6 : Hid (Below wr.heap.size wr W6) := Lib.hid (by rw [← hW6]; exact HB6.out)
        clear hW6 HR6 HB6 hn6 hrd
        have hz6 := B6.out.size
        have C6 := Lib.hid (HR.out.step B6.out)
        have hr5 := C6.out.five.range
        have hn7 : RowB (W6.alloc (.cells (U (flb 32 [])).toArray 26)) W6.heap.size 26 (flb 32 []) := heap_alloc_new W6 _
        have HR7 := Lib.hid (hn7.setRow E)
        have HB7 : Hid (Below W6.heap.size W6 ((W6.alloc (.cells (U (flb 32 [])).toArray 26)).setRow W6.heap.size (U E).toArray)) := Lib.hid (below_setRow ((Below.refl _ _).alloc (Nat.le_refl _) _) (Nat.le_refl _) _)
        go_upto_region 8 with (first
          | (refine load_D rfl (.tmp 5) rfl g5 0 E rfl hr5 HE0.out ?_)
          | (refine store_B rfl (.tmp 9) (.tmp 21) rfl W6.heap.size (flb 32 []) E rfl rfl 26 hn7 HE0.out (by simp [flb]) ?_))
        generalize hW7 : World.setRow _ _ _ = W7
        have R7 : Hid (RowB W7 W6.heap.size 26 E) := Lib.hid (by rw [← hW7]; exact HR7.out)
        have B7 : Hid (Below W6.heap.size W6 W7) := Lib.hid (by rw [← hW7]; exact HB7.out)
        clear hW7 HR7 HB7 hn7 hr5
        have H7 := Lib.hid (show ChS w2 g5 g6 wr.heap.size W6.heap.size lo hi L (some ⟨bb, oo, none⟩) c4 d1 E E E W7 from
          ⟨C6.out.step B7.out, R6.out.keep (B7.out.block _ R6.out.lt), R7.out, hl5, hl6, hzr, by omega, by omega⟩)
        clear R6 B6 C6 R7 B7
        try simp only [Act.put]
        go_cut [] from 22 to 27 (fun wx => ChS w2 g5 g6 wr.heap.size W6.heap.size lo hi L (some ⟨bb, oo, none⟩) c4 d1 E (chaind E d1) (chaind E d1) wx)
        case first =>
          refine wp_region_noPanic ?_
          refine wp_region_held_drew (S := fun _ => True) (by kernel_rfl) trivial (fun _ => ?_)
          have z0 := H7.out.drew
          revert z0; generalize World.drew W7 = v0; intro z0
          refine wpAnyH_ready (rs := [0, 1, 3, 4]) (by kernel_rfl) (by simp) ?_
          refine AllReadyH.cons (o := _) rfl (fun K hK => ?_) (AllReadyH.cons (o := _) rfl (fun K hK => ?_) (AllReadyH.cons (o := _) rfl (fun K hK => ?_) (AllReadyH.cons (o := _) rfl (fun K hK => ?_) AllReadyH.nil)))
          · refine to_load 22 (.tmp 5) rfl rfl rfl g5 0 E rfl ((z0.five).range) HE0.out (hK.out _ _ trivial fun _ => ?_)
            simp only [Act.put, List.setIfInBounds_toArray, List.set_cons_zero, List.set_cons_succ]
            clear hK
            refine wpAnyH_ready (rs := [1, 3, 4]) (by kernel_rfl) (by simp) ?_
            refine AllReadyH.cons (o := _) rfl (fun K hK => ?_) (AllReadyH.cons (o := _) rfl (fun K hK => ?_) (AllReadyH.cons (o := _) rfl (fun K hK => ?_) AllReadyH.nil))
            · refine to_load 23 (.tmp 8) rfl rfl rfl wr.heap.size 0 d1 rfl ((z0.eight).range) HD1.out (hK.out _ _ trivial fun _ => ?_)
              simp only [Act.put, List.setIfInBounds_toArray, List.set_cons_zero, List.set_cons_succ]
              clear hK
              refine wpAnyH_ready (rs := [2, 3, 4]) (by kernel_rfl) (by simp) ?_
              refine AllReadyH.cons (o := _) rfl (fun K hK => ?_) (AllReadyH.cons (o := _) rfl (fun K hK => ?_) (AllReadyH.cons (o := _) rfl (fun K hK => ?_) AllReadyH.nil))
              · refine to_call 25 24 _ _ #[.agg (U E).toArray, .agg (U d1).toArray] _ rfl rfl rfl rfl enters_Chain (chain_all E d1 v0 HE0.out HD1.out (HKR.out _ z0.st.below)) (fun e v2 h5 => ⟨_, h5.1, ?_⟩)
                have z1 := z0.step h5.2
                refine hK.out _ _ trivial fun _ => ?_
                clear h5
                simp only [Act.put, List.setIfInBounds_toArray, List.set_cons_zero, List.set_cons_succ]
                clear hK
                refine wpAnyH_ready (rs := [3, 4]) (by kernel_rfl) (by simp) ?_
                refine AllReadyH.cons (o := _) rfl (fun K hK => ?_) (AllReadyH.cons (o := _) rfl (fun K hK => ?_) AllReadyH.nil)
                · refine to_load 25 (.tmp 6) rfl rfl rfl g6 0 E rfl ((z1.six).range) HE0.out (hK.out _ _ trivial fun _ => ?_)
                  simp only [Act.put, List.setIfInBounds_toArray, List.set_cons_zero, List.set_cons_succ]
                  clear hK
                  refine wpAnyH_ready (rs := [4]) (by kernel_rfl) (by simp) ?_
                  refine AllReadyH.cons (o := _) rfl (fun K hK => ?_) AllReadyH.nil
                  · refine to_load 26 (.tmp 8) rfl rfl rfl wr.heap.size 0 d1 rfl ((z1.eight).range) HD1.out (hK.out _ _ trivial fun _ => ?_)
                    simp only [Act.put, List.setIfInBounds_toArray, List.set_cons_zero, List.set_cons_succ]
                    clear hK
                    refine wpAnyH_ready (rs := [5]) (by kernel_rfl) (by simp) ?_
                    refine AllReadyH.cons (o := _) rfl (fun K hK => ?_) AllReadyH.nil
                    · refine to_call 26 27 _ _ #[.agg (U E).toArray, .agg (U d1).toArray] _ rfl rfl rfl rfl enters_rChain (rchain_all E d1 v2 HE0.out HD1.out) (fun e v4 h5 => ⟨_, h5.1, ?_⟩)
                      have z3 := z1.step h5.2
                      refine hK.out _ _ trivial fun _ => ?_
                      clear h5
                      simp only [Act.put, List.setIfInBounds_toArray, List.set_cons_zero, List.set_cons_succ]
                      clear hK
                      refine wpAnyH_ready (rs := [6]) (by kernel_rfl) (by simp) ?_
                      refine AllReadyH.cons (o := _) rfl (fun K hK => ?_) AllReadyH.nil
                      · have z5 := z3.set5 (chaind E d1)
                        refine to_store (.tmp 5) (.tmp 24) rfl rfl rfl g5 E (chaind E d1) rfl rfl z3.five HE0.out (tagd_len _ _) (hK.out _ _ trivial fun _ => ?_)
                        revert z5; generalize World.setRow v4 _ _ = v6; intro z5
                        clear hK
                        refine wpAnyH_ready (rs := [7]) (by kernel_rfl) (by simp) ?_
                        refine AllReadyH.cons (o := _) rfl (fun K hK => ?_) AllReadyH.nil
                        · have z7 := z5.set6 (chaind E d1)
                          refine to_store (.tmp 6) (.tmp 27) rfl rfl rfl g6 E (chaind E d1) rfl rfl z5.six HE0.out (tagd_len _ _) (hK.out _ _ trivial fun _ => ?_)
                          revert z7; generalize World.setRow v6 _ _ = v8; intro z7
                          clear hK
                          refine wpAnyH_done (by kernel_rfl) (NoPanic.normal ?_) _
                          have HE := Lib.hid z7
                          go_wp2_with fail
                          go_meet
                          exact HE.out
                · refine to_load 26 (.tmp 8) rfl rfl rfl wr.heap.size 0 d1 rfl ((z1.eight).range) HD1.out (hK.out _ _ trivial fun _ => ?_)
                  simp only [Act.put, List.setIfInBounds_toArray, List.set_cons_zero, List.set_cons_succ]
                  clear hK
                  refine wpAnyH_ready (rs := [3]) (by kernel_rfl) (by simp) ?_
                  refine AllReadyH.cons (o := _) rfl (fun K hK => ?_) AllReadyH.nil
                  · refine to_load 25 (.tmp 6) rfl rfl rfl g6 0 E rfl ((z1.six).range) HE0.out (hK.out _ _ trivial fun _ => ?_)
                    simp only [Act.put, List.setIfInBounds_toArray, List.set_cons_zero, List.set_cons_succ]
                    clear hK
                    refine wpAnyH_ready (rs := [5]) (by kernel_rfl) (by simp) ?_
                    refine AllReadyH.cons (o := _) rfl (fun K hK => ?_) AllReadyH.nil
                    · refine to_call 26 27 _ _ #[.agg (U E).toArray, .agg (U d1).toArray] _ rfl rfl rfl rfl enters_rChain (rchain_all E d1 v2 HE0.out HD1.out) (fun e v10 h5 => ⟨_, h5.1, ?_⟩)
                      have z9 := z1.step h5.2
                      refine hK.out _ _ trivial fun _ => ?_
                      clear h5
                      simp only [Act.put, List.setIfInBounds_toArray, List.set_cons_zero, List.set_cons_succ]
                      clear hK
                      refine wpAnyH_ready (rs := [6]) (by kernel_rfl) (by simp) ?_
                      refine AllReadyH.cons (o := _) rfl (fun K hK => ?_) AllReadyH.nil
                      · have z11 := z9.set5 (chaind E d1)
                        refine to_store (.tmp 5) (.tmp 24) rfl rfl rfl g5 E (chaind E d1) rfl rfl z9.five HE0.out (tagd_len _ _) (hK.out _ _ trivial fun _ => ?_)
                        revert z11; generalize World.setRow v10 _ _ = v12; intro z11
                        clear hK
                        refine wpAnyH_ready (rs := [7]) (by kernel_rfl) (by simp) ?_
                        refine AllReadyH.cons (o := _) rfl (fun K hK => ?_) AllReadyH.nil
                        · have z13 := z11.set6 (chaind E d1)
                          refine to_store (.tmp 6) (.tmp 27) rfl rfl rfl g6 E (chaind E d1) rfl rfl z11.six HE0.out (tagd_len _ _) (hK.out _ _ trivial fun _ => ?_)
                          revert z13; generalize World.setRow v12 _ _ = v14; intro z13
                          clear hK
                          refine wpAnyH_done (by kernel_rfl) (NoPanic.normal ?_) _
                          have HE := Lib.hid z13
                          go_wp2_with fail
                          go_meet
                          exact HE.out
              · refine to_load 25 (.tmp 6) rfl rfl rfl g6 0 E rfl ((z0.six).range) HE0.out (hK.out _ _ trivial fun _ => ?_)
                simp only [Act.put, List.setIfInBounds_toArray, List.set_cons_zero, List.set_cons_succ]
                clear hK
                refine wpAnyH_ready (rs := [2, 4]) (by kernel_rfl) (by simp) ?_
                refine AllReadyH.cons (o := _) rfl (fun K hK => ?_) (AllReadyH.cons (o := _) rfl (fun K hK => ?_) AllReadyH.nil)
                · refine to_call 25 24 _ _ #[.agg (U E).toArray, .agg (U d1).toArray] _ rfl rfl rfl rfl enters_Chain (chain_all E d1 v0 HE0.out HD1.out (HKR.out _ z0.st.below)) (fun e v16 h5 => ⟨_, h5.1, ?_⟩)
                  have z15 := z0.step h5.2
                  refine hK.out _ _ trivial fun _ => ?_
                  clear h5
                  simp only [Act.put, List.setIfInBounds_toArray, List.set_cons_zero, List.set_cons_succ]
                  clear hK
                  refine wpAnyH_ready (rs := [4]) (by kernel_rfl) (by simp) ?_
                  refine AllReadyH.cons (o := _) rfl (fun K hK => ?_) AllReadyH.nil
                  · refine to_load 26 (.tmp 8) rfl rfl rfl wr.heap.size 0 d1 rfl ((z15.eight).range) HD1.out (hK.out _ _ trivial fun _ => ?_)
                    simp only [Act.put, List.setIfInBounds_toArray, List.set_cons_zero, List.set_cons_succ]
                    clear hK
                    refine wpAnyH_ready (rs := [5]) (by kernel_rfl) (by simp) ?_
                    refine AllReadyH.cons (o := _) rfl (fun K hK => ?_) AllReadyH.nil
                    · refine to_call 26 27 _ _ #[.agg (U E).toArray, .agg (U d1).toArray] _ rfl rfl rfl rfl enters_rChain (rchain_all E d1 v16 HE0.out HD1.out) (fun e v18 h5 => ⟨_, h5.1, ?_⟩)
                      have z17 := z15.step h5.2
                      refine hK.out _ _ trivial fun _ => ?_
                      clear h5
                      simp only [Act.put, List.setIfInBounds_toArray, List.set_cons_zero, List.set_cons_succ]
                      clear hK
                      refine wpAnyH_ready (rs := [6]) (by kernel_rfl) (by simp) ?_
                      refine AllReadyH.cons (o := _) rfl (fun K hK => ?_) AllReadyH.nil
                      · have z19 := z17.set5 (chaind E d1)
                        refine to_store (.tmp 5) (.tmp 24) rfl rfl rfl g5 E (chaind E d1) rfl rfl z17.five HE0.out (tagd_len _ _) (hK.out _ _ trivial fun _ => ?_)
                        revert z19; generalize World.setRow v18 _ _ = v20; intro z19
                        clear hK
                        refine wpAnyH_ready (rs := [7]) (by kernel_rfl) (by simp) ?_
                        refine AllReadyH.cons (o := _) rfl (fun K hK => ?_) AllReadyH.nil
                        · have z21 := z19.set6 (chaind E d1)
                          refine to_store (.tmp 6) (.tmp 27) rfl rfl rfl g6 E (chaind E d1) rfl rfl z19.six HE0.out (tagd_len _ _) (hK.out _ _ trivial fun _ => ?_)
                          revert z21; generalize World.setRow v20 _ _ = v22; intro z21
                          clear hK
                          refine wpAnyH_done (by kernel_rfl) (NoPanic.normal ?_) _
                          have HE := Lib.hid z21
                          go_wp2_with fail
                          go_meet
                          exact HE.out
                · refine to_load 26 (.tmp 8) rfl rfl rfl wr.heap.size 0 d1 rfl ((z0.eight).range) HD1.out (hK.out _ _ trivial fun _ => ?_)
                  simp only [Act.put, List.setIfInBounds_toArray, List.set_cons_zero, List.set_cons_succ]
                  clear hK
                  refine wpAnyH_ready (rs := [2]) (by kernel_rfl) (by simp) ?_
                  refine AllReadyH.cons (o := _) rfl (fun K hK => ?_) AllReadyH.nil
                  · refine to_call 25 24 _ _ #[.agg (U E).toArray, .agg (U d1).toArray] _ rfl rfl rfl rfl enters_Chain (chain_all E d1 v0 HE0.out HD1.out (HKR.out _ z0.st.below)) (fun e v24 h5 => ⟨_, h5.1, ?_⟩)
                    have z23 := z0.step h5.2
                    refine hK.out _ _ trivial fun _ => ?_
                    clear h5
                    simp only [Act.put, List.setIfInBounds_toArray, List.set_cons_zero, List.set_cons_succ]
                    clear hK
                    refine wpAnyH_ready (rs := [5]) (by kernel_rfl) (by simp) ?_
                    refine AllReadyH.cons (o := _) rfl (fun K hK => ?_) AllReadyH.nil
                    · refine to_call 26 27 _ _ #[.agg (U E).toArray, .agg (U d1).toArray] _ rfl rfl rfl rfl enters_rChain (rchain_all E d1 v24 HE0.out HD1.out) (fun e v26 h5 => ⟨_, h5.1, ?_⟩)
                      have z25 := z23.step h5.2
                      refine hK.out _ _ trivial fun _ => ?_
                      clear h5
                      simp only [Act.put, List.setIfInBounds_toArray, List.set_cons_zero, List.set_cons_succ]
                      clear hK
                      refine wpAnyH_ready (rs := [6]) (by kernel_rfl) (by simp) ?_
                      refine AllReadyH.cons (o := _) rfl (fun K hK => ?_) AllReadyH.nil
                      · have z27 := z25.set5 (chaind E d1)
                        refine to_store (.tmp 5) (.tmp 24) rfl rfl rfl g5 E (chaind E d1) rfl rfl z25.five HE0.out (tagd_len _ _) (hK.out _ _ trivial fun _ => ?_)
                        revert z27; generalize World.setRow v26 _ _ = v28; intro z27
                        clear hK
                        refine wpAnyH_ready (rs := [7]) (by kernel_rfl) (by simp) ?_
                        refine AllReadyH.cons (o := _) rfl (fun K hK => ?_) AllReadyH.nil
                        · have z29 := z27.set6 (chaind E d1)
                          refine to_store (.tmp 6) (.tmp 27) rfl rfl rfl g6 E (chaind E d1) rfl rfl z27.six HE0.out (tagd_len _ _) (hK.out _ _ trivial fun _ => ?_)
                          revert z29; generalize World.setRow v28 _ _ = v30; intro z29
                          clear hK
                          refine wpAnyH_done (by kernel_rfl) (NoPanic.normal ?_) _
                          have HE := Lib.hid z29
                          go_wp2_with fail
                          go_meet
                          exact HE.out
              · refine to_load 26 (.tmp 8) rfl rfl rfl wr.heap.size 0 d1 rfl ((z0.eight).range) HD1.out (hK.out _ _ trivial fun _ => ?_)
                simp only [Act.put, List.setIfInBounds_toArray, List.set_cons_zero, List.set_cons_succ]
                clear hK
                refine wpAnyH_ready (rs := [2, 3]) (by kernel_rfl) (by simp) ?_
                refine AllReadyH.cons (o := _) rfl (fun K hK => ?_) (AllReadyH.cons (o := _) rfl (fun K hK => ?_) AllReadyH.nil)
                · refine to_call 25 24 _ _ #[.agg (U E).toArray, .agg (U d1).toArray] _ rfl rfl rfl rfl enters_Chain (chain_all E d1 v0 HE0.out HD1.out (HKR.out _ z0.st.below)) (fun e v32 h5 => ⟨_, h5.1, ?_⟩)
                  have z31 := z0.step h5.2
                  refine hK.out _ _ trivial fun _ => ?_
                  clear h5
                  simp only [Act.put, List.setIfInBounds_toArray, List.set_cons_zero, List.set_cons_succ]
                  clear hK
                  refine wpAnyH_ready (rs := [3]) (by kernel_rfl) (by simp) ?_
                  refine AllReadyH.cons (o := _) rfl (fun K hK => ?_) AllReadyH.nil
                  · refine to_load 25 (.tmp 6) rfl rfl rfl g6 0 E rfl ((z31.six).range) HE0.out (hK.out _ _ trivial fun _ => ?_)
                    simp only [Act.put, List.setIfInBounds_toArray, List.set_cons_zero, List.set_cons_succ]
                    clear hK
                    refine wpAnyH_ready (rs := [5]) (by kernel_rfl) (by simp) ?_
                    refine AllReadyH.cons (o := _) rfl (fun K hK => ?_) AllReadyH.nil
                    · refine to_call 26 27 _ _ #[.agg (U E).toArray, .agg (U d1).toArray] _ rfl rfl rfl rfl enters_rChain (rchain_all E d1 v32 HE0.out HD1.out) (fun e v34 h5 => ⟨_, h5.1, ?_⟩)
                      have z33 := z31.step h5.2
                      refine hK.out _ _ trivial fun _ => ?_
                      clear h5
                      simp only [Act.put, List.setIfInBounds_toArray, List.set_cons_zero, List.set_cons_succ]
                      clear hK
                      refine wpAnyH_ready (rs := [6]) (by kernel_rfl) (by simp) ?_
                      refine AllReadyH.cons (o := _) rfl (fun K hK => ?_) AllReadyH.nil
                      · have z35 := z33.set5 (chaind E d1)
                        refine to_store (.tmp 5) (.tmp 24) rfl rfl rfl g5 E (chaind E d1) rfl rfl z33.five HE0.out (tagd_len _ _) (hK.out _ _ trivial fun _ => ?_)
                        revert z35; generalize World.setRow v34 _ _ = v36; intro z35
                        clear hK
                        refine wpAnyH_ready (rs := [7]) (by kernel_rfl) (by simp) ?_
                        refine AllReadyH.cons (o := _) rfl (fun K hK => ?_) AllReadyH.nil
                        · have z37 := z35.set6 (chaind E d1)
                          refine to_store (.tmp 6) (.tmp 27) rfl rfl rfl g6 E (chaind E d1) rfl rfl z35.six HE0.out (tagd_len _ _) (hK.out _ _ trivial fun _ => ?_)
                          revert z37; generalize World.setRow v36 _ _ = v38; intro z37
                          clear hK
                          refine wpAnyH_done (by kernel_rfl) (NoPanic.normal ?_) _
                          have HE := Lib.hid z37
                          go_wp2_with fail
                          go_meet
                          exact HE.out
                · refine to_load 25 (.tmp 6) rfl rfl rfl g6 0 E rfl ((z0.six).range) HE0.out (hK.out _ _ trivial fun _ => ?_)
                  simp only [Act.put, List.setIfInBounds_toArray, List.set_cons_zero, List.set_cons_succ]
                  clear hK
                  refine wpAnyH_ready (rs := [2]) (by kernel_rfl) (by simp) ?_
                  refine AllReadyH.cons (o := _) rfl (fun K hK => ?_) AllReadyH.nil
                  · refine to_call 25 24 _ _ #[.agg (U E).toArray, .agg (U d1).toArray] _ rfl rfl rfl rfl enters_Chain (chain_all E d1 v0 HE0.out HD1.out (HKR.out _ z0.st.below)) (fun e v40 h5 => ⟨_, h5.1, ?_⟩)
                    have z39 := z0.step h5.2
                    refine hK.out _ _ trivial fun _ => ?_
                    clear h5
                    simp only [Act.put, List.setIfInBounds_toArray, List.set_cons_zero, List.set_cons_succ]
                    clear hK
                    refine wpAnyH_ready (rs := [5]) (by kernel_rfl) (by simp) ?_
                    refine AllReadyH.cons (o := _) rfl (fun K hK => ?_) AllReadyH.nil
                    · refine to_call 26 27 _ _ #[.agg (U E).toArray, .agg (U d1).toArray] _ rfl rfl rfl rfl enters_rChain (rchain_all E d1 v40 HE0.out HD1.out) (fun e v42 h5 => ⟨_, h5.1, ?_⟩)
                      have z41 := z39.step h5.2
                      refine hK.out _ _ trivial fun _ => ?_
                      clear h5
                      simp only [Act.put, List.setIfInBounds_toArray, List.set_cons_zero, List.set_cons_succ]
                      clear hK
                      refine wpAnyH_ready (rs := [6]) (by kernel_rfl) (by simp) ?_
                      refine AllReadyH.cons (o := _) rfl (fun K hK => ?_) AllReadyH.nil
                      · have z43 := z41.set5 (chaind E d1)
                        refine to_store (.tmp 5) (.tmp 24) rfl rfl rfl g5 E (chaind E d1) rfl rfl z41.five HE0.out (tagd_len _ _) (hK.out _ _ trivial fun _ => ?_)
                        revert z43; generalize World.setRow v42 _ _ = v44; intro z43
                        clear hK
                        refine wpAnyH_ready (rs := [7]) (by kernel_rfl) (by simp) ?_
                        refine AllReadyH.cons (o := _) rfl (fun K hK => ?_) AllReadyH.nil
                        · have z45 := z43.set6 (chaind E d1)
                          refine to_store (.tmp 6) (.tmp 27) rfl rfl rfl g6 E (chaind E d1) rfl rfl z43.six HE0.out (tagd_len _ _) (hK.out _ _ trivial fun _ => ?_)
                          revert z45; generalize World.setRow v44 _ _ = v46; intro z45
                          clear hK
                          refine wpAnyH_done (by kernel_rfl) (NoPanic.normal ?_) _
                          have HE := Lib.hid z45
                          go_wp2_with fail
                          go_meet
                          exact HE.out
            · refine to_load 25 (.tmp 6) rfl rfl rfl g6 0 E rfl ((z0.six).range) HE0.out (hK.out _ _ trivial fun _ => ?_)
              simp only [Act.put, List.setIfInBounds_toArray, List.set_cons_zero, List.set_cons_succ]
              clear hK
              refine wpAnyH_ready (rs := [1, 4]) (by kernel_rfl) (by simp) ?_
              refine AllReadyH.cons (o := _) rfl (fun K hK => ?_) (AllReadyH.cons (o := _) rfl (fun K hK => ?_) AllReadyH.nil)
              · refine to_load 23 (.tmp 8) rfl rfl rfl wr.heap.size 0 d1 rfl ((z0.eight).range) HD1.out (hK.out _ _ trivial fun _ => ?_)
                simp only [Act.put, List.setIfInBounds_toArray, List.set_cons_zero, List.set_cons_succ]
                clear hK
                refine wpAnyH_ready (rs := [2, 4]) (by kernel_rfl) (by simp) ?_
                refine AllReadyH.cons (o := _) rfl (fun K hK => ?_) (AllReadyH.cons (o := _) rfl (fun K hK => ?_) AllReadyH.nil)
                · refine to_call 25 24 _ _ #[.agg (U E).toArray, .agg (U d1).toArray] _ rfl rfl rfl rfl enters_Chain (chain_all E d1 v0 HE0.out HD1.out (HKR.out _ z0.st.below)) (fun e v48 h5 => ⟨_, h5.1, ?_⟩)
                  have z47 := z0.step h5.2
                  refine hK.out _ _ trivial fun _ => ?_
                  clear h5
                  simp only [Act.put, List.setIfInBounds_toArray, List.set_cons_zero, List.set_cons_succ]
                  clear hK
                  refine wpAnyH_ready (rs := [4]) (by kernel_rfl) (by simp) ?_
                  refine AllReadyH.cons (o := _) rfl (fun K hK => ?_) AllReadyH.nil
                  · refine to_load 26 (.tmp 8) rfl rfl rfl wr.heap.size 0 d1 rfl ((z47.eight).range) HD1.out (hK.out _ _ trivial fun _ => ?_)
                    simp only [Act.put, List.setIfInBounds_toArray, List.set_cons_zero, List.set_cons_succ]
                    clear hK
                    refine wpAnyH_ready (rs := [5]) (by kernel_rfl) (by simp) ?_
                    refine AllReadyH.cons (o := _) rfl (fun K hK => ?_) AllReadyH.nil
                    · refine to_call 26 27 _ _ #[.agg (U E).toArray, .agg (U d1).toArray] _ rfl rfl rfl rfl enters_rChain (rchain_all E d1 v48 HE0.out HD1.out) (fun e v50 h5 => ⟨_, h5.1, ?_⟩)
                      have z49 := z47.step h5.2
                      refine hK.out _ _ trivial fun _ => ?_
                      clear h5
                      simp only [Act.put, List.setIfInBounds_toArray, List.set_cons_zero, List.set_cons_succ]
                      clear hK
                      refine wpAnyH_ready (rs := [6]) (by kernel_rfl) (by simp) ?_
                      refine AllReadyH.cons (o := _) rfl (fun K hK => ?_) AllReadyH.nil
                      · have z51 := z49.set5 (chaind E d1)
                        refine to_store (.tmp 5) (.tmp 24) rfl rfl rfl g5 E (chaind E d1) rfl rfl z49.five HE0.out (tagd_len _ _) (hK.out _ _ trivial fun _ => ?_)
                        revert z51; generalize World.setRow v50 _ _ = v52; intro z51
                        clear hK
                        refine wpAnyH_ready (rs := [7]) (by kernel_rfl) (by simp) ?_
                        refine AllReadyH.cons (o := _) rfl (fun K hK => ?_) AllReadyH.nil
                        · have z53 := z51.set6 (chaind E d1)
                          refine to_store (.tmp 6) (.tmp 27) rfl rfl rfl g6 E (chaind E d1) rfl rfl z51.six HE0.out (tagd_len _ _) (hK.out _ _ trivial fun _ => ?_)
                          revert z53; generalize World.setRow v52 _ _ = v54; intro z53
                          clear hK
                          refine wpAnyH_done (by kernel_rfl) (NoPanic.normal ?_) _
                          have HE := Lib.hid z53
                          go_wp2_with fail
                          go_meet
                          exact HE.out
                · refine to_load 26 (.tmp 8) rfl rfl rfl wr.heap.size 0 d1 rfl ((z0.eight).range) HD1.out (hK.out _ _ trivial fun _ => ?_)
                  simp only [Act.put, List.setIfInBounds_toArray, List.set_cons_zero, List.set_cons_succ]
                  clear hK
                  refine wpAnyH_ready (rs := [2]) (by kernel_rfl) (by simp) ?_
                  refine AllReadyH.cons (o := _) rfl (fun K hK => ?_) AllReadyH.nil
                  · refine to_call 25 24 _ _ #[.agg (U E).toArray, .agg (U d1).toArray] _ rfl rfl rfl rfl enters_Chain (chain_all E d1 v0 HE0.out HD1.out (HKR.out _ z0.st.below)) (fun e v56 h5 => ⟨_, h5.1, ?_⟩)
                    have z55 := z0.step h5.2
                    refine hK.out _ _ trivial fun _ => ?_
                    clear h5
                    simp only [Act.put, List.setIfInBounds_toArray, List.set_cons_zero, List.set_cons_succ]
                    clear hK
                    refine wpAnyH_ready (rs := [5]) (by kernel_rfl) (by simp) ?_
                    refine AllReadyH.cons (o := _) rfl (fun K hK => ?_) AllReadyH.nil
                    · refine to_call 26 27 _ _ #[.agg (U E).toArray, .agg (U d1).toArray] _ rfl rfl rfl rfl enters_rChain (rchain_all E d1 v56 HE0.out HD1.out) (fun e v58 h5 => ⟨_, h5.1, ?_⟩)
                      have z57 := z55.step h5.2
                      refine hK.out _ _ trivial fun _ => ?_
                      clear h5
                      simp only [Act.put, List.setIfInBounds_toArray, List.set_cons_zero, List.set_cons_succ]
                      clear hK
                      refine wpAnyH_ready (rs := [6]) (by kernel_rfl) (by simp) ?_
                      refine AllReadyH.cons (o := _) rfl (fun K hK => ?_) AllReadyH.nil
                      · have z59 := z57.set5 (chaind E d1)
                        refine to_store (.tmp 5) (.tmp 24) rfl rfl rfl g5 E (chaind E d1) rfl rfl z57.five HE0.out (tagd_len _ _) (hK.out _ _ trivial fun _ => ?_)
                        revert z59; generalize World.setRow v58 _ _ = v60; intro z59
                        clear hK
                        refine wpAnyH_ready (rs := [7]) (by kernel_rfl) (by simp) ?_
                        refine AllReadyH.cons (o := _) rfl (fun K hK => ?_) AllReadyH.nil
                        · have z61 := z59.set6 (chaind E d1)
                          refine to_store (.tmp 6) (.tmp 27) rfl rfl rfl g6 E (chaind E d1) rfl rfl z59.six HE0.out (tagd_len _ _) (hK.out _ _ trivial fun _ => ?_)
                          revert z61; generalize World.setRow v60 _ _ = v62; intro z61
                          clear hK
                          refine wpAnyH_done (by kernel_rfl) (NoPanic.normal ?_) _
                          have HE := Lib.hid z61
                          go_wp2_with fail
                          go_meet
                          exact HE.out
              · refine to_load 26 (.tmp 8) rfl rfl rfl wr.heap.size 0 d1 rfl ((z0.eight).range) HD1.out (hK.out _ _ trivial fun _ => ?_)
                simp only [Act.put, List.setIfInBounds_toArray, List.set_cons_zero, List.set_cons_succ]
                clear hK
                refine wpAnyH_ready (rs := [1]) (by kernel_rfl) (by simp) ?_
                refine AllReadyH.cons (o := _) rfl (fun K hK => ?_) AllReadyH.nil
                · refine to_load 23 (.tmp 8) rfl rfl rfl wr.heap.size 0 d1 rfl ((z0.eight).range) HD1.out (hK.out _ _ trivial fun _ => ?_)
                  simp only [Act.put, List.setIfInBounds_toArray, List.set_cons_zero, List.set_cons_succ]
                  clear hK
                  refine wpAnyH_ready (rs := [2]) (by kernel_rfl) (by simp) ?_
                  refine AllReadyH.cons (o := _) rfl (fun K hK => ?_) AllReadyH.nil
                  · refine to_call 25 24 _ _ #[.agg (U E).toArray, .agg (U d1).toArray] _ rfl rfl rfl rfl enters_Chain (chain_all E d1 v0 HE0.out HD1.out (HKR.out _ z0.st.below)) (fun e v64 h5 => ⟨_, h5.1, ?_⟩)
                    have z63 := z0.step h5.2
                    refine hK.out _ _ trivial fun _ => ?_
                    clear h5
                    simp only [Act.put, List.setIfInBounds_toArray, List.set_cons_zero, List.set_cons_succ]
                    clear hK
                    refine wpAnyH_ready (rs := [5]) (by kernel_rfl) (by simp) ?_
                    refine AllReadyH.cons (o := _) rfl (fun K hK => ?_) AllReadyH.nil
                    · refine to_call 26 27 _ _ #[.agg (U E).toArray, .agg (U d1).toArray] _ rfl rfl rfl rfl enters_rChain (rchain_all E d1 v64 HE0.out HD1.out) (fun e v66 h5 => ⟨_, h5.1, ?_⟩)
                      have z65 := z63.step h5.2
                      refine hK.out _ _ trivial fun _ => ?_
                      clear h5
                      simp only [Act.put, List.setIfInBounds_toArray, List.set_cons_zero, List.set_cons_succ]
                      clear hK
                      refine wpAnyH_ready (rs := [6]) (by kernel_rfl) (by simp) ?_
                      refine AllReadyH.cons (o := _) rfl (fun K hK => ?_) AllReadyH.nil
                      · have z67 := z65.set5 (chaind E d1)
                        refine to_store (.tmp 5) (.tmp 24) rfl rfl rfl g5 E (chaind E d1) rfl rfl z65.five HE0.out (tagd_len _ _) (hK.out _ _ trivial fun _ => ?_)
                        revert z67; generalize World.setRow v66 _ _ = v68; intro z67
                        clear hK
                        refine wpAnyH_ready (rs := [7]) (by kernel_rfl) (by simp) ?_
                        refine AllReadyH.cons (o := _) rfl (fun K hK => ?_) AllReadyH.nil
                        · have z69 := z67.set6 (chaind E d1)
                          refine to_store (.tmp 6) (.tmp 27) rfl rfl rfl g6 E (chaind E d1) rfl rfl z67.six HE0.out (tagd_len _ _) (hK.out _ _ trivial fun _ => ?_)
                          revert z69; generalize World.setRow v68 _ _ = v70; intro z69
                          clear hK
                          refine wpAnyH_done (by kernel_rfl) (NoPanic.normal ?_) _
                          have HE := Lib.hid z69
                          go_wp2_with fail
                          go_meet
                          exact HE.out
            · refine to_load 26 (.tmp 8) rfl rfl rfl wr.heap.size 0 d1 rfl ((z0.eight).range) HD1.out (hK.out _ _ trivial fun _ => ?_)
              simp only [Act.put, List.setIfInBounds_toArray, List.set_cons_zero, List.set_cons_succ]
              clear hK
              refine wpAnyH_ready (rs := [1, 3]) (by kernel_rfl) (by simp) ?_
              refine AllReadyH.cons (o := _) rfl (fun K hK => ?_) (AllReadyH.cons (o := _) rfl (fun K hK => ?_) AllReadyH.nil)
              · refine to_load 23 (.tmp 8) rfl rfl rfl wr.heap.size 0 d1 rfl ((z0.eight).range) HD1.out (hK.out _ _ trivial fun _ => ?_)
                simp only [Act.put, List.setIfInBounds_toArray, List.set_cons_zero, List.set_cons_succ]
                clear hK
                refine wpAnyH_ready (rs := [2, 3]) (by kernel_rfl) (by simp) ?_
                refine AllReadyH.cons (o := _) rfl (fun K hK => ?_) (AllReadyH.cons (o := _) rfl (fun K hK => ?_) AllReadyH.nil)
                · refine to_call 25 24 _ _ #[.agg (U E).toArray, .agg (U d1).toArray] _ rfl rfl rfl rfl enters_Chain (chain_all E d1 v0 HE0.out HD1.out (HKR.out _ z0.st.below)) (fun e v72 h5 => ⟨_, h5.1, ?_⟩)
                  have z71 := z0.step h5.2
                  refine hK.out _ _ trivial fun _ => ?_
                  clear h5
                  simp only [Act.put, List.setIfInBounds_toArray, List.set_cons_zero, List.set_cons_succ]
                  clear hK
                  refine wpAnyH_ready (rs := [3]) (by kernel_rfl) (by simp) ?_
                  refine AllReadyH.cons (o := _) rfl (fun K hK => ?_) AllReadyH.nil
                  · refine to_load 25 (.tmp 6) rfl rfl rfl g6 0 E rfl ((z71.six).range) HE0.out (hK.out _ _ trivial fun _ => ?_)
                    simp only [Act.put, List.setIfInBounds_toArray, List.set_cons_zero, List.set_cons_succ]
                    clear hK
                    refine wpAnyH_ready (rs := [5]) (by kernel_rfl) (by simp) ?_
                    refine AllReadyH.cons (o := _) rfl (fun K hK => ?_) AllReadyH.nil
                    · refine to_call 26 27 _ _ #[.agg (U E).toArray, .agg (U d1).toArray] _ rfl rfl rfl rfl enters_rChain (rchain_all E d1 v72 HE0.out HD1.out) (fun e v74 h5 => ⟨_, h5.1, ?_⟩)
                      have z73 := z71.step h5.2
                      refine hK.out _ _ trivial fun _ => ?_
                      clear h5
                      simp only [Act.put, List.setIfInBounds_toArray, List.set_cons_zero, List.set_cons_succ]
                      clear hK
                      refine wpAnyH_ready (rs := [6]) (by kernel_rfl) (by simp) ?_
                      refine AllReadyH.cons (o := _) rfl (fun K hK => ?_) AllReadyH.nil
                      · have z75 := z73.set5 (chaind E d1)
                        refine to_store (.tmp 5) (.tmp 24) rfl rfl rfl g5 E (chaind E d1) rfl rfl z73.five HE0.out (tagd_len _ _) (hK.out _ _ trivial fun _ => ?_)
                        revert z75; generalize World.setRow v74 _ _ = v76; intro z75
                        clear hK
                        refine wpAnyH_ready (rs := [7]) (by kernel_rfl) (by simp) ?_
                        refine AllReadyH.cons (o := _) rfl (fun K hK => ?_) AllReadyH.nil
                        · have z77 := z75.set6 (chaind E d1)
                          refine to_store (.tmp 6) (.tmp 27) rfl rfl rfl g6 E (chaind E d1) rfl rfl z75.six HE0.out (tagd_len _ _) (hK.out _ _ trivial fun _ => ?_)
                          revert z77; generalize World.setRow v76 _ _ = v78; intro z77
                          clear hK
                          refine wpAnyH_done (by kernel_rfl) (NoPanic.normal ?_) _
                          have HE := Lib.hid z77
                          go_wp2_with fail
                          go_meet
                          exact HE.out
                · refine to_load 25 (.tmp 6) rfl rfl rfl g6 0 E rfl ((z0.six).range) HE0.out (hK.out _ _ trivial fun _ => ?_)
                  simp only [Act.put, List.setIfInBounds_toArray, List.set_cons_zero, List.set_cons_succ]
                  clear hK
                  refine wpAnyH_ready (rs := [2]) (by kernel_rfl) (by simp) ?_
                  refine AllReadyH.cons (o := _) rfl (fun K hK => ?_) AllReadyH.nil
                  · refine to_call 25 24 _ _ #[.agg (U E).toArray, .agg (U d1).toArray] _ rfl rfl rfl rfl enters_Chain (chain_all E d1 v0 HE0.out HD1.out (HKR.out _ z0.st.below)) (fun e v80 h5 => ⟨_, h5.1, ?_⟩)
                    have z79 := z0.step h5.2
                    refine hK.out _ _ trivial fun _ => ?_
                    clear h5
                    simp only [Act.put, List.setIfInBounds_toArray, List.set_cons_zero, List.set_cons_succ]
                    clear hK
                    refine wpAnyH_ready (rs := [5]) (by kernel_rfl) (by simp) ?_
                    refine AllReadyH.cons (o := _) rfl (fun K hK => ?_) AllReadyH.nil
                    · refine to_call 26 27 _ _ #[.agg (U E).toArray, .agg (U d1).toArray] _ rfl rfl rfl rfl enters_rChain (rchain_all E d1 v80 HE0.out HD1.out) (fun e v82 h5 => ⟨_, h5.1, ?_⟩)
                      have z81 := z79.step h5.2
                      refine hK.out _ _ trivial fun _ => ?_
                      clear h5
                      simp only [Act.put, List.setIfInBounds_toArray, List.set_cons_zero, List.set_cons_succ]
                      clear hK
                      refine wpAnyH_ready (rs := [6]) (by kernel_rfl) (by simp) ?_
                      refine AllReadyH.cons (o := _) rfl (fun K hK => ?_) AllReadyH.nil
                      · have z83 := z81.set5 (chaind E d1)
                        refine to_store (.tmp 5) (.tmp 24) rfl rfl rfl g5 E (chaind E d1) rfl rfl z81.five HE0.out (tagd_len _ _) (hK.out _ _ trivial fun _ => ?_)
                        revert z83; generalize World.setRow v82 _ _ = v84; intro z83
                        clear hK
                        refine wpAnyH_ready (rs := [7]) (by kernel_rfl) (by simp) ?_
                        refine AllReadyH.cons (o := _) rfl (fun K hK => ?_) AllReadyH.nil
                        · have z85 := z83.set6 (chaind E d1)
                          refine to_store (.tmp 6) (.tmp 27) rfl rfl rfl g6 E (chaind E d1) rfl rfl z83.six HE0.out (tagd_len _ _) (hK.out _ _ trivial fun _ => ?_)
                          revert z85; generalize World.setRow v84 _ _ = v86; intro z85
                          clear hK
                          refine wpAnyH_done (by kernel_rfl) (NoPanic.normal ?_) _
                          have HE := Lib.hid z85
                          go_wp2_with fail
                          go_meet
                          exact HE.out
              · refine to_load 25 (.tmp 6) rfl rfl rfl g6 0 E rfl ((z0.six).range) HE0.out (hK.out _ _ trivial fun _ => ?_)
                simp only [Act.put, List.setIfInBounds_toArray, List.set_cons_zero, List.set_cons_succ]
                clear hK
                refine wpAnyH_ready (rs := [1]) (by kernel_rfl) (by simp) ?_
                refine AllReadyH.cons (o := _) rfl (fun K hK => ?_) AllReadyH.nil
                · refine to_load 23 (.tmp 8) rfl rfl rfl wr.heap.size 0 d1 rfl ((z0.eight).range) HD1.out (hK.out _ _ trivial fun _ => ?_)
                  simp only [Act.put, List.setIfInBounds_toArray, List.set_cons_zero, List.set_cons_succ]
                  clear hK
                  refine wpAnyH_ready (rs := [2]) (by kernel_rfl) (by simp) ?_
                  refine AllReadyH.cons (o := _) rfl (fun K hK => ?_) AllReadyH.nil
                  · refine to_call 25 24 _ _ #[.agg (U E).toArray, .agg (U d1).toArray] _ rfl rfl rfl rfl enters_Chain (chain_all E d1 v0 HE0.out HD1.out (HKR.out _ z0.st.below)) (fun e v88 h5 => ⟨_, h5.1, ?_⟩)
                    have z87 := z0.step h5.2
                    refine hK.out _ _ trivial fun _ => ?_
                    clear h5
                    simp only [Act.put, List.setIfInBounds_toArray, List.set_cons_zero, List.set_cons_succ]
                    clear hK
                    refine wpAnyH_ready (rs := [5]) (by kernel_rfl) (by simp) ?_
                    refine AllReadyH.cons (o := _) rfl (fun K hK => ?_) AllReadyH.nil
                    · refine to_call 26 27 _ _ #[.agg (U E).toArray, .agg (U d1).toArray] _ rfl rfl rfl rfl enters_rChain (rchain_all E d1 v88 HE0.out HD1.out) (fun e v90 h5 => ⟨_, h5.1, ?_⟩)
                      have z89 := z87.step h5.2
                      refine hK.out _ _ trivial fun _ => ?_
                      clear h5
                      simp only [Act.put, List.setIfInBounds_toArray, List.set_cons_zero, List.set_cons_succ]
                      clear hK
                      refine wpAnyH_ready (rs := [6]) (by kernel_rfl) (by simp) ?_
                      refine AllReadyH.cons (o := _) rfl (fun K hK => ?_) AllReadyH.nil
                      · have z91 := z89.set5 (chaind E d1)
                        refine to_store (.tmp 5) (.tmp 24) rfl rfl rfl g5 E (chaind E d1) rfl rfl z89.five HE0.out (tagd_len _ _) (hK.out _ _ trivial fun _ => ?_)
                        revert z91; generalize World.setRow v90 _ _ = v92; intro z91
                        clear hK
                        refine wpAnyH_ready (rs := [7]) (by kernel_rfl) (by simp) ?_
                        refine AllReadyH.cons (o := _) rfl (fun K hK => ?_) AllReadyH.nil
                        · have z93 := z91.set6 (chaind E d1)
                          refine to_store (.tmp 6) (.tmp 27) rfl rfl rfl g6 E (chaind E d1) rfl rfl z91.six HE0.out (tagd_len _ _) (hK.out _ _ trivial fun _ => ?_)
                          revert z93; generalize World.setRow v92 _ _ = v94; intro z93
                          clear hK
                          refine wpAnyH_done (by kernel_rfl) (NoPanic.normal ?_) _
                          have HE := Lib.hid z93
                          go_wp2_with fail
                          go_meet
                          exact HE.out
          · refine to_load 23 (.tmp 8) rfl rfl rfl wr.heap.size 0 d1 rfl ((z0.eight).range) HD1.out (hK.out _ _ trivial fun _ => ?_)
            simp only [Act.put, List.setIfInBounds_toArray, List.set_cons_zero, List.set_cons_succ]
            clear hK
            refine wpAnyH_ready (rs := [0, 3, 4]) (by kernel_rfl) (by simp) ?_
            refine AllReadyH.cons (o := _) rfl (fun K hK => ?_) (AllReadyH.cons (o := _) rfl (fun K hK => ?_) (AllReadyH.cons (o := _) rfl (fun K hK => ?_) AllReadyH.nil))
            · refine to_load 22 (.tmp 5) rfl rfl rfl g5 0 E rfl ((z0.five).range) HE0.out (hK.out _ _ trivial fun _ => ?_)
              simp only [Act.put, List.setIfInBounds_toArray, List.set_cons_zero, List.set_cons_succ]
              clear hK
              refine wpAnyH_ready (rs := [2, 3, 4]) (by kernel_rfl) (by simp) ?_
              refine AllReadyH.cons (o := _) rfl (fun K hK => ?_) (AllReadyH.cons (o := _) rfl (fun K hK => ?_) (AllReadyH.cons (o := _) rfl (fun K hK => ?_) AllReadyH.nil))
              · refine to_call 25 24 _ _ #[.agg (U E).toArray, .agg (U d1).toArray] _ rfl rfl rfl rfl enters_Chain (chain_all E d1 v0 HE0.out HD1.out (HKR.out _ z0.st.below)) (fun e v96 h5 => ⟨_, h5.1, ?_⟩)
                have z95 := z0.step h5.2
                refine hK.out _ _ trivial fun _ => ?_
                clear h5
                simp only [Act.put, List.setIfInBounds_toArray, List.set_cons_zero, List.set_cons_succ]
                clear hK
                refine wpAnyH_ready (rs := [3, 4]) (by kernel_rfl) (by simp) ?_
                refine AllReadyH.cons (o := _) rfl (fun K hK => ?_) (AllReadyH.cons (o := _) rfl (fun K hK => ?_) AllReadyH.nil)
                · refine to_load 25 (.tmp 6) rfl rfl rfl g6 0 E rfl ((z95.six).range) HE0.out (hK.out _ _ trivial fun _ => ?_)
                  simp only [Act.put, List.setIfInBounds_toArray, List.set_cons_zero, List.set_cons_succ]
                  clear hK
                  refine wpAnyH_ready (rs := [4]) (by kernel_rfl) (by simp) ?_
                  refine AllReadyH.cons (o := _) rfl (fun K hK => ?_) AllReadyH.nil
                  · refine to_load 26 (.tmp 8) rfl rfl rfl wr.heap.size 0 d1 rfl ((z95.eight).range) HD1.out (hK.out _ _ trivial fun _ => ?_)
                    simp only [Act.put, List.setIfInBounds_toArray, List.set_cons_zero, List.set_cons_succ]
                    clear hK
                    refine wpAnyH_ready (rs := [5]) (by kernel_rfl) (by simp) ?_
                    refine AllReadyH.cons (o := _) rfl (fun K hK => ?_) AllReadyH.nil
                    · refine to_call 26 27 _ _ #[.agg (U E).toArray, .agg (U d1).toArray] _ rfl rfl rfl rfl enters_rChain (rchain_all E d1 v96 HE0.out HD1.out) (fun e v98 h5 => ⟨_, h5.1, ?_⟩)
                      have z97 := z95.step h5.2
                      refine hK.out _ _ trivial fun _ => ?_
                      clear h5
                      simp only [Act.put, List.setIfInBounds_toArray, List.set_cons_zero, List.set_cons_succ]
                      clear hK
                      refine wpAnyH_ready (rs := [6]) (by kernel_rfl) (by simp) ?_
                      refine AllReadyH.cons (o := _) rfl (fun K hK => ?_) AllReadyH.nil
                      · have z99 := z97.set5 (chaind E d1)
                        refine to_store (.tmp 5) (.tmp 24) rfl rfl rfl g5 E (chaind E d1) rfl rfl z97.five HE0.out (tagd_len _ _) (hK.out _ _ trivial fun _ => ?_)
                        revert z99; generalize World.setRow v98 _ _ = v100; intro z99
                        clear hK
                        refine wpAnyH_ready (rs := [7]) (by kernel_rfl) (by simp) ?_
                        refine AllReadyH.cons (o := _) rfl (fun K hK => ?_) AllReadyH.nil
                        · have z101 := z99.set6 (chaind E d1)
                          refine to_store (.tmp 6) (.tmp 27) rfl rfl rfl g6 E (chaind E d1) rfl rfl z99.six HE0.out (tagd_len _ _) (hK.out _ _ trivial fun _ => ?_)
                          revert z101; generalize World.setRow v100 _ _ = v102; intro z101
                          clear hK
                          refine wpAnyH_done (by kernel_rfl) (NoPanic.normal ?_) _
                          have HE := Lib.hid z101
                          go_wp2_with fail
                          go_meet
                          exact HE.out
                · refine to_load 26 (.tmp 8) rfl rfl rfl wr.heap.size 0 d1 rfl ((z95.eight).range) HD1.out (hK.out _ _ trivial fun _ => ?_)
                  simp only [Act.put, List.setIfInBounds_toArray, List.set_cons_zero, List.set_cons_succ]
                  clear hK
                  refine wpAnyH_ready (rs := [3]) (by kernel_rfl) (by simp) ?_
                  refine AllReadyH.cons (o := _) rfl (fun K hK => ?_) AllReadyH.nil
                  · refine to_load 25 (.tmp 6) rfl rfl rfl g6 0 E rfl ((z95.six).range) HE0.out (hK.out _ _ trivial fun _ => ?_)
                    simp only [Act.put, List.setIfInBounds_toArray, List.set_cons_zero, List.set_cons_succ]
                    clear hK
                    refine wpAnyH_ready (rs := [5]) (by kernel_rfl) (by simp) ?_
                    refine AllReadyH.cons (o := _) rfl (fun K hK => ?_) AllReadyH.nil
                    · refine to_call 26 27 _ _ #[.agg (U E).toArray, .agg (U d1).toArray] _ rfl rfl rfl rfl enters_rChain (rchain_all E d1 v96 HE0.out HD1.out) (fun e v104 h5 => ⟨_, h5.1, ?_⟩)
                      have z103 := z95.step h5.2
                      refine hK.out _ _ trivial fun _ => ?_
                      clear h5
                      simp only [Act.put, List.setIfInBounds_toArray, List.set_cons_zero, List.set_cons_succ]
                      clear hK
                      refine wpAnyH_ready (rs := [6]) (by kernel_rfl) (by simp) ?_
                      refine AllReadyH.cons (o := _) rfl (fun K hK => ?_) AllReadyH.nil
                      · have z105 := z103.set5 (chaind E d1)
                        refine to_store (.tmp 5) (.tmp 24) rfl rfl rfl g5 E (chaind E d1) rfl rfl z103.five HE0.out (tagd_len _ _) (hK.out _ _ trivial fun _ => ?_)
                        revert z105; generalize World.setRow v104 _ _ = v106; intro z105
                        clear hK
                        refine wpAnyH_ready (rs := [7]) (by kernel_rfl) (by simp) ?_
                        refine AllReadyH.cons (o := _) rfl (fun K hK => ?_) AllReadyH.nil
                        · have z107 := z105.set6 (chaind E d1)
                          refine to_store (.tmp 6) (.tmp 27) rfl rfl rfl g6 E (chaind E d1) rfl rfl z105.six HE0.out (tagd_len _ _) (hK.out _ _ trivial fun _ => ?_)
                          revert z107; generalize World.setRow v106 _ _ = v108; intro z107
                          clear hK
                          refine wpAnyH_done (by kernel_rfl) (NoPanic.normal ?_) _
                          have HE := Lib.hid z107
                          go_wp2_with fail
                          go_meet
                          exact HE.out
              · refine to_load 25 (.tmp 6) rfl rfl rfl g6 0 E rfl ((z0.six).range) HE0.out (hK.out _ _ trivial fun _ => ?_)
                simp only [Act.put, List.setIfInBounds_toArray, List.set_cons_zero, List.set_cons_succ]
                clear hK
                refine wpAnyH_ready (rs := [2, 4]) (by kernel_rfl) (by simp) ?_
                refine AllReadyH.cons (o := _) rfl (fun K hK => ?_) (AllReadyH.cons (o := _) rfl (fun K hK => ?_) AllReadyH.nil)
                · refine to_call 25 24 _ _ #[.agg (U E).toArray, .agg (U d1).toArray] _ rfl rfl rfl rfl enters_Chain (chain_all E d1 v0 HE0.out HD1.out (HKR.out _ z0.st.below)) (fun e v110 h5 => ⟨_, h5.1, ?_⟩)
                  have z109 := z0.step h5.2
                  refine hK.out _ _ trivial fun _ => ?_
                  clear h5
                  simp only [Act.put, List.setIfInBounds_toArray, List.set_cons_zero, List.set_cons_succ]
                  clear hK
                  refine wpAnyH_ready (rs := [4]) (by kernel_rfl) (by simp) ?_
                  refine AllReadyH.cons (o := _) rfl (fun K hK => ?_) AllReadyH.nil
                  · refine to_load 26 (.tmp 8) rfl rfl rfl wr.heap.size 0 d1 rfl ((z109.eight).range) HD1.out (hK.out _ _ trivial fun _ => ?_)
                    simp only [Act.put, List.setIfInBounds_toArray, List.set_cons_zero, List.set_cons_succ]
                    clear hK
                    refine wpAnyH_ready (rs := [5]) (by kernel_rfl) (by simp) ?_
                    refine AllReadyH.cons (o := _) rfl (fun K hK => ?_) AllReadyH.nil
                    · refine to_call 26 27 _ _ #[.agg (U E).toArray, .agg (U d1).toArray] _ rfl rfl rfl rfl enters_rChain (rchain_all E d1 v110 HE0.out HD1.out) (fun e v112 h5 => ⟨_, h5.1, ?_⟩)
                      have z111 := z109.step h5.2
                      refine hK.out _ _ trivial fun _ => ?_
                      clear h5
                      simp only [Act.put, List.setIfInBounds_toArray, List.set_cons_zero, List.set_cons_succ]
                      clear hK
                      refine wpAnyH_ready (rs := [6]) (by kernel_rfl) (by simp) ?_
                      refine AllReadyH.cons (o := _) rfl (fun K hK => ?_) AllReadyH.nil
                      · have z113 := z111.set5 (chaind E d1)
                        refine to_store (.tmp 5) (.tmp 24) rfl rfl rfl g5 E (chaind E d1) rfl rfl z111.five HE0.out (tagd_len _ _) (hK.out _ _ trivial fun _ => ?_)
                        revert z113; generalize World.setRow v112 _ _ = v114; intro z113
                        clear hK
                        refine wpAnyH_ready (rs := [7]) (by kernel_rfl) (by simp) ?_
                        refine AllReadyH.cons (o := _) rfl (fun K hK => ?_) AllReadyH.nil
                        · have z115 := z113.set6 (chaind E d1)
                          refine to_store (.tmp 6) (.tmp 27) rfl rfl rfl g6 E (chaind E d1) rfl rfl z113.six HE0.out (tagd_len _ _) (hK.out _ _ trivial fun _ => ?_)
                          revert z115; generalize World.setRow v114 _ _ = v116; intro z115
                          clear hK
                          refine wpAnyH_done (by kernel_rfl) (NoPanic.normal ?_) _
                          have HE := Lib.hid z115
                          go_wp2_with fail
                          go_meet
                          exact HE.out
                · refine to_load 26 (.tmp 8) rfl rfl rfl wr.heap.size 0 d1 rfl ((z0.eight).range) HD1.out (hK.out _ _ trivial fun _ => ?_)
                  simp only [Act.put, List.setIfInBounds_toArray, List.set_cons_zero, List.set_cons_succ]
                  clear hK
                  refine wpAnyH_ready (rs := [2]) (by kernel_rfl) (by simp) ?_
                  refine AllReadyH.cons (o := _) rfl (fun K hK => ?_) AllReadyH.nil
                  · refine to_call 25 24 _ _ #[.agg (U E).toArray, .agg (U d1).toArray] _ rfl rfl rfl rfl enters_Chain (chain_all E d1 v0 HE0.out HD1.out (HKR.out _ z0.st.below)) (fun e v118 h5 => ⟨_, h5.1, ?_⟩)
                    have z117 := z0.step h5.2
                    refine hK.out _ _ trivial fun _ => ?_
                    clear h5
                    simp only [Act.put, List.setIfInBounds_toArray, List.set_cons_zero, List.set_cons_succ]
                    clear hK
                    refine wpAnyH_ready (rs := [5]) (by kernel_rfl) (by simp) ?_
                    refine AllReadyH.cons (o := _) rfl (fun K hK => ?_) AllReadyH.nil
                    · refine to_call 26 27 _ _ #[.agg (U E).toArray, .agg (U d1).toArray] _ rfl rfl rfl rfl enters_rChain (rchain_all E d1 v118 HE0.out HD1.out) (fun e v120 h5 => ⟨_, h5.1, ?_⟩)
                      have z119 := z117.step h5.2
                      refine hK.out _ _ trivial fun _ => ?_
                      clear h5
                      simp only [Act.put, List.setIfInBounds_toArray, List.set_cons_zero, List.set_cons_succ]
                      clear hK
                      refine wpAnyH_ready (rs := [6]) (by kernel_rfl) (by simp) ?_
                      refine AllReadyH.cons (o := _) rfl (fun K hK => ?_) AllReadyH.nil
                      · have z121 := z119.set5 (chaind E d1)
                        refine to_store (.tmp 5) (.tmp 24) rfl rfl rfl g5 E (chaind E d1) rfl rfl z119.five HE0.out (tagd_len _ _) (hK.out _ _ trivial fun _ => ?_)
                        revert z121; generalize World.setRow v120 _ _ = v122; intro z121
                        clear hK
                        refine wpAnyH_ready (rs := [7]) (by kernel_rfl) (by simp) ?_
                        refine AllReadyH.cons (o := _) rfl (fun K hK => ?_) AllReadyH.nil
                        · have z123 := z121.set6 (chaind E d1)
                          refine to_store (.tmp 6) (.tmp 27) rfl rfl rfl g6 E (chaind E d1) rfl rfl z121.six HE0.out (tagd_len _ _) (hK.out _ _ trivial fun _ => ?_)
                          revert z123; generalize World.setRow v122 _ _ = v124; intro z123
                          clear hK
                          refine wpAnyH_done (by kernel_rfl) (NoPanic.normal ?_) _
                          have HE := Lib.hid z123
                          go_wp2_with fail
                          go_meet
                          exact HE.out
              · refine to_load 26 (.tmp 8) rfl rfl rfl wr.heap.size 0 d1 rfl ((z0.eight).range) HD1.out (hK.out _ _ trivial fun _ => ?_)
                simp only [Act.put, List.setIfInBounds_toArray, List.set_cons_zero, List.set_cons_succ]
                clear hK
                refine wpAnyH_ready (rs := [2, 3]) (by kernel_rfl) (by simp) ?_
                refine AllReadyH.cons (o := _) rfl (fun K hK => ?_) (AllReadyH.cons (o := _) rfl (fun K hK => ?_) AllReadyH.nil)
                · refine to_call 25 24 _ _ #[.agg (U E).toArray, .agg (U d1).toArray] _ rfl rfl rfl rfl enters_Chain (chain_all E d1 v0 HE0.out HD1.out (HKR.out _ z0.st.below)) (fun e v126 h5 => ⟨_, h5.1, ?_⟩)
                  have z125 := z0.step h5.2
                  refine hK.out _ _ trivial fun _ => ?_
                  clear h5
                  simp only [Act.put, List.setIfInBounds_toArray, List.set_cons_zero, List.set_cons_succ]
                  clear hK
                  refine wpAnyH_ready (rs := [3]) (by kernel_rfl) (by simp) ?_
                  refine AllReadyH.cons (o := _) rfl (fun K hK => ?_) AllReadyH.nil
                  · refine to_load 25 (.tmp 6) rfl rfl rfl g6 0 E rfl ((z125.six).range) HE0.out (hK.out _ _ trivial fun _ => ?_)
                    simp only [Act.put, List.setIfInBounds_toArray, List.set_cons_zero, List.set_cons_succ]
                    clear hK
                    refine wpAnyH_ready (rs := [5]) (by kernel_rfl) (by simp) ?_
                    refine AllReadyH.cons (o := _) rfl (fun K hK => ?_) AllReadyH.nil
                    · refine to_call 26 27 _ _ #[.agg (U E).toArray, .agg (U d1).toArray] _ rfl rfl rfl rfl enters_rChain (rchain_all E d1 v126 HE0.out HD1.out) (fun e v128 h5 => ⟨_, h5.1, ?_⟩)
                      have z127 := z125.step h5.2
                      refine hK.out _ _ trivial fun _ => ?_
                      clear h5
                      simp only [Act.put, List.setIfInBounds_toArray, List.set_cons_zero, List.set_cons_succ]
                      clear hK
                      refine wpAnyH_ready (rs := [6]) (by kernel_rfl) (by simp) ?_
                      refine AllReadyH.cons (o := _) rfl (fun K hK => ?_) AllReadyH.nil
                      · have z129 := z127.set5 (chaind E d1)
                        refine to_store (.tmp 5) (.tmp 24) rfl rfl rfl g5 E (chaind E d1) rfl rfl z127.five HE0.out (tagd_len _ _) (hK.out _ _ trivial fun _ => ?_)
                        revert z129; generalize World.setRow v128 _ _ = v130; intro z129
                        clear hK
                        refine wpAnyH_ready (rs := [7]) (by kernel_rfl) (by simp) ?_
                        refine AllReadyH.cons (o := _) rfl (fun K hK => ?_) AllReadyH.nil
                        · have z131 := z129.set6 (chaind E d1)
                          refine to_store (.tmp 6) (.tmp 27) rfl rfl rfl g6 E (chaind E d1) rfl rfl z129.six HE0.out (tagd_len _ _) (hK.out _ _ trivial fun _ => ?_)
                          revert z131; generalize World.setRow v130 _ _ = v132; intro z131
                          clear hK
                          refine wpAnyH_done (by kernel_rfl) (NoPanic.normal ?_) _
                          have HE := Lib.hid z131
                          go_wp2_with fail
                          go_meet
                          exact HE.out
                · refine to_load 25 (.tmp 6) rfl rfl rfl g6 0 E rfl ((z0.six).range) HE0.out (hK.out _ _ trivial fun _ => ?_)
                  simp only [Act.put, List.setIfInBounds_toArray, List.set_cons_zero, List.set_cons_succ]
                  clear hK
                  refine wpAnyH_ready (rs := [2]) (by kernel_rfl) (by simp) ?_
                  refine AllReadyH.cons (o := _) rfl (fun K hK => ?_) AllReadyH.nil
                  · refine to_call 25 24 _ _ #[.agg (U E).toArray, .agg (U d1).toArray] _ rfl rfl rfl rfl enters_Chain (chain_all E d1 v0 HE0.out HD1.out (HKR.out _ z0.st.below)) (fun e v134 h5 => ⟨_, h5.1, ?_⟩)
                    have z133 := z0.step h5.2
                    refine hK.out _ _ trivial fun _ => ?_
                    clear h5
                    simp only [Act.put, List.setIfInBounds_toArray, List.set_cons_zero, List.set_cons_succ]
                    clear hK
                    refine wpAnyH_ready (rs := [5]) (by kernel_rfl) (by simp) ?_
                    refine AllReadyH.cons (o := _) rfl (fun K hK => ?_) AllReadyH.nil
                    · refine to_call 26 27 _ _ #[.agg (U E).toArray, .agg (U d1).toArray] _ rfl rfl rfl rfl enters_rChain (rchain_all E d1 v134 HE0.out HD1.out) (fun e v136 h5 => ⟨_, h5.1, ?_⟩)
                      have z135 := z133.step h5.2
                      refine hK.out _ _ trivial fun _ => ?_
                      clear h5
                      simp only [Act.put, List.setIfInBounds_toArray, List.set_cons_zero, List.set_cons_succ]
                      clear hK
                      refine wpAnyH_ready (rs := [6]) (by kernel_rfl) (by simp) ?_
                      refine AllReadyH.cons (o := _) rfl (fun K hK => ?_) AllReadyH.nil
                      · have z137 := z135.set5 (chaind E d1)
                        refine to_store (.tmp 5) (.tmp 24) rfl rfl rfl g5 E (chaind E d1) rfl rfl z135.five HE0.out (tagd_len _ _) (hK.out _ _ trivial fun _ => ?_)
                        revert z137; generalize World.setRow v136 _ _ = v138; intro z137
                        clear hK
                        refine wpAnyH_ready (rs := [7]) (by kernel_rfl) (by simp) ?_
                        refine AllReadyH.cons (o := _) rfl (fun K hK => ?_) AllReadyH.nil
                        · have z139 := z137.set6 (chaind E d1)
                          refine to_store (.tmp 6) (.tmp 27) rfl rfl rfl g6 E (chaind E d1) rfl rfl z137.six HE0.out (tagd_len _ _) (hK.out _ _ trivial fun _ => ?_)
                          revert z139; generalize World.setRow v138 _ _ = v140; intro z139
                          clear hK
                          refine wpAnyH_done (by kernel_rfl) (NoPanic.normal ?_) _
                          have HE := Lib.hid z139
                          go_wp2_with fail
                          go_meet
                          exact HE.out
            · refine to_load 25 (.tmp 6) rfl rfl rfl g6 0 E rfl ((z0.six).range) HE0.out (hK.out _ _ trivial fun _ => ?_)
              simp only [Act.put, List.setIfInBounds_toArray, List.set_cons_zero, List.set_cons_succ]
              clear hK
              refine wpAnyH_ready (rs := [0, 4]) (by kernel_rfl) (by simp) ?_
              refine AllReadyH.cons (o := _) rfl (fun K hK => ?_) (AllReadyH.cons (o := _) rfl (fun K hK => ?_) AllReadyH.nil)
              · refine to_load 22 (.tmp 5) rfl rfl rfl g5 0 E rfl ((z0.five).range) HE0.out (hK.out _ _ trivial fun _ => ?_)
                simp only [Act.put, List.setIfInBounds_toArray, List.set_cons_zero, List.set_cons_succ]
                clear hK
                refine wpAnyH_ready (rs := [2, 4]) (by kernel_rfl) (by simp) ?_
                refine AllReadyH.cons (o := _) rfl (fun K hK => ?_) (AllReadyH.cons (o := _) rfl (fun K hK => ?_) AllReadyH.nil)
                · refine to_call 25 24 _ _ #[.agg (U E).toArray, .agg (U d1).toArray] _ rfl rfl rfl rfl enters_Chain (chain_all E d1 v0 HE0.out HD1.out (HKR.out _ z0.st.below)) (fun e v142 h5 => ⟨_, h5.1, ?_⟩)
                  have z141 := z0.step h5.2
                  refine hK.out _ _ trivial fun _ => ?_
                  clear h5
                  simp only [Act.put, List.setIfInBounds_toArray, List.set_cons_zero, List.set_cons_succ]
                  clear hK
                  refine wpAnyH_ready (rs := [4]) (by kernel_rfl) (by simp) ?_
                  refine AllReadyH.cons (o := _) rfl (fun K hK => ?_) AllReadyH.nil
                  · refine to_load 26 (.tmp 8) rfl rfl rfl wr.heap.size 0 d1 rfl ((z141.eight).range) HD1.out (hK.out _ _ trivial fun _ => ?_)
                    simp only [Act.put, List.setIfInBounds_toArray, List.set_cons_zero, List.set_cons_succ]
                    clear hK
                    refine wpAnyH_ready (rs := [5]) (by kernel_rfl) (by simp) ?_
                    refine AllReadyH.cons (o := _) rfl (fun K hK => ?_) AllReadyH.nil
                    · refine to_call 26 27 _ _ #[.agg (U E).toArray, .agg (U d1).toArray] _ rfl rfl rfl rfl enters_rChain (rchain_all E d1 v142 HE0.out HD1.out) (fun e v144 h5 => ⟨_, h5.1, ?_⟩)
                      have z143 := z141.step h5.2
                      refine hK.out _ _ trivial fun _ => ?_
                      clear h5
                      simp only [Act.put, List.setIfInBounds_toArray, List.set_cons_zero, List.set_cons_succ]
                      clear hK
                      refine wpAnyH_ready (rs := [6]) (by kernel_rfl) (by simp) ?_
                      refine AllReadyH.cons (o := _) rfl (fun K hK => ?_) AllReadyH.nil
                      · have z145 := z143.set5 (chaind E d1)
                        refine to_store (.tmp 5) (.tmp 24) rfl rfl rfl g5 E (chaind E d1) rfl rfl z143.five HE0.out (tagd_len _ _) (hK.out _ _ trivial fun _ => ?_)
                        revert z145; generalize World.setRow v144 _ _ = v146; intro z145
                        clear hK
                        refine wpAnyH_ready (rs := [7]) (by kernel_rfl) (by simp) ?_
                        refine AllReadyH.cons (o := _) rfl (fun K hK => ?_) AllReadyH.nil
                        · have z147 := z145.set6 (chaind E d1)
                          refine to_store (.tmp 6) (.tmp 27) rfl rfl rfl g6 E (chaind E d1) rfl rfl z145.six HE0.out (tagd_len _ _) (hK.out _ _ trivial fun _ => ?_)
                          revert z147; generalize World.setRow v146 _ _ = v148; intro z147
                          clear hK
                          refine wpAnyH_done (by kernel_rfl) (NoPanic.normal ?_) _
                          have HE := Lib.hid z147
                          go_wp2_with fail
                          go_meet
                          exact HE.out
                · refine to_load 26 (.tmp 8) rfl rfl rfl wr.heap.size 0 d1 rfl ((z0.eight).range) HD1.out (hK.out _ _ trivial fun _ => ?_)
                  simp only [Act.put, List.setIfInBounds_toArray, List.set_cons_zero, List.set_cons_succ]
                  clear hK
                  refine wpAnyH_ready (rs := [2]) (by kernel_rfl) (by simp) ?_
                  refine AllReadyH.cons (o := _) rfl (fun K hK => ?_) AllReadyH.nil
                  · refine to_call 25 24 _ _ #[.agg (U E).toArray, .agg (U d1).toArray] _ rfl rfl rfl rfl enters_Chain (chain_all E d1 v0 HE0.out HD1.out (HKR.out _ z0.st.below)) (fun e v150 h5 => ⟨_, h5.1, ?_⟩)
                    have z149 := z0.step h5.2
                    refine hK.out _ _ trivial fun _ => ?_
                    clear h5
                    simp only [Act.put, List.setIfInBounds_toArray, List.set_cons_zero, List.set_cons_succ]
                    clear hK
                    refine wpAnyH_ready (rs := [5]) (by kernel_rfl) (by simp) ?_
                    refine AllReadyH.cons (o := _) rfl (fun K hK => ?_) AllReadyH.nil
                    · refine to_call 26 27 _ _ #[.agg (U E).toArray, .agg (U d1).toArray] _ rfl rfl rfl rfl enters_rChain (rchain_all E d1 v150 HE0.out HD1.out) (fun e v152 h5 => ⟨_, h5.1, ?_⟩)
                      have z151 := z149.step h5.2
                      refine hK.out _ _ trivial fun _ => ?_
                      clear h5
                      simp only [Act.put, List.setIfInBounds_toArray, List.set_cons_zero, List.set_cons_succ]
                      clear hK
                      refine wpAnyH_ready (rs := [6]) (by kernel_rfl) (by simp) ?_
                      refine AllReadyH.cons (o := _) rfl (fun K hK => ?_) AllReadyH.nil
                      · have z153 := z151.set5 (chaind E d1)
                        refine to_store (.tmp 5) (.tmp 24) rfl rfl rfl g5 E (chaind E d1) rfl rfl z151.five HE0.out (tagd_len _ _) (hK.out _ _ trivial fun _ => ?_)
                        revert z153; generalize World.setRow v152 _ _ = v154; intro z153
                        clear hK
                        refine wpAnyH_ready (rs := [7]) (by kernel_rfl) (by simp) ?_
                        refine AllReadyH.cons (o := _) rfl (fun K hK => ?_) AllReadyH.nil
                        · have z155 := z153.set6 (chaind E d1)
                          refine to_store (.tmp 6) (.tmp 27) rfl rfl rfl g6 E (chaind E d1) rfl rfl z153.six HE0.out (tagd_len _ _) (hK.out _ _ trivial fun _ => ?_)
                          revert z155; generalize World.setRow v154 _ _ = v156; intro z155
                          clear hK
                          refine wpAnyH_done (by kernel_rfl) (NoPanic.normal ?_) _
                          have HE := Lib.hid z155
                          go_wp2_with fail
                          go_meet
                          exact HE.out
              · refine to_load 26 (.tmp 8) rfl rfl rfl wr.heap.size 0 d1 rfl ((z0.eight).range) HD1.out (hK.out _ _ trivial fun _ => ?_)
                simp only [Act.put, List.setIfInBounds_toArray, List.set_cons_zero, List.set_cons_succ]
                clear hK
                refine wpAnyH_ready (rs := [0]) (by kernel_rfl) (by simp) ?_
                refine AllReadyH.cons (o := _) rfl (fun K hK => ?_) AllReadyH.nil
                · refine to_load 22 (.tmp 5) rfl rfl rfl g5 0 E rfl ((z0.five).range) HE0.out (hK.out _ _ trivial fun _ => ?_)
                  simp only [Act.put, List.setIfInBounds_toArray, List.set_cons_zero, List.set_cons_succ]
                  clear hK
                  refine wpAnyH_ready (rs := [2]) (by kernel_rfl) (by simp) ?_
                  refine AllReadyH.cons (o := _) rfl (fun K hK => ?_) AllReadyH.nil
                  · refine to_call 25 24 _ _ #[.agg (U E).toArray, .agg (U d1).toArray] _ rfl rfl rfl rfl enters_Chain (chain_all E d1 v0 HE0.out HD1.out (HKR.out _ z0.st.below)) (fun e v158 h5 => ⟨_, h5.1, ?_⟩)
                    have z157 := z0.step h5.2
                    refine hK.out _ _ trivial fun _ => ?_
                    clear h5
                    simp only [Act.put, List.setIfInBounds_toArray, List.set_cons_zero, List.set_cons_succ]
                    clear hK
                    refine wpAnyH_ready (rs := [5]) (by kernel_rfl) (by simp) ?_
                    refine AllReadyH.cons (o := _) rfl (fun K hK => ?_) AllReadyH.nil
                    · refine to_call 26 27 _ _ #[.agg (U E).toArray, .agg (U d1).toArray] _ rfl rfl rfl rfl enters_rChain (rchain_all E d1 v158 HE0.out HD1.out) (fun e v160 h5 => ⟨_, h5.1, ?_⟩)
                      have z159 := z157.step h5.2
                      refine hK.out _ _ trivial fun _ => ?_
                      clear h5
                      simp only [Act.put, List.setIfInBounds_toArray, List.set_cons_zero, List.set_cons_succ]
                      clear hK
                      refine wpAnyH_ready (rs := [6]) (by kernel_rfl) (by simp) ?_
                      refine AllReadyH.cons (o := _) rfl (fun K hK => ?_) AllReadyH.nil
                      · have z161 := z159.set5 (chaind E d1)
                        refine to_store (.tmp 5) (.tmp 24) rfl rfl rfl g5 E (chaind E d1) rfl rfl z159.five HE0.out (tagd_len _ _) (hK.out _ _ trivial fun _ => ?_)
                        revert z161; generalize World.setRow v160 _ _ = v162; intro z161
                        clear hK
                        refine wpAnyH_ready (rs := [7]) (by kernel_rfl) (by simp) ?_
                        refine AllReadyH.cons (o := _) rfl (fun K hK => ?_) AllReadyH.nil
                        · have z163 := z161.set6 (chaind E d1)
                          refine to_store (.tmp 6) (.tmp 27) rfl rfl rfl g6 E (chaind E d1) rfl rfl z161.six HE0.out (tagd_len _ _) (hK.out _ _ trivial fun _ => ?_)
                          revert z163; generalize World.setRow v162 _ _ = v164; intro z163
                          clear hK
                          refine wpAnyH_done (by kernel_rfl) (NoPanic.normal ?_) _
                          have HE := Lib.hid z163
                          go_wp2_with fail
                          go_meet
                          exact HE.out
            · refine to_load 26 (.tmp 8) rfl rfl rfl wr.heap.size 0 d1 rfl ((z0.eight).range) HD1.out (hK.out _ _ trivial fun _ => ?_)
              simp only [Act.put, List.setIfInBounds_toArray, List.set_cons_zero, List.set_cons_succ]
              clear hK
              refine wpAnyH_ready (rs := [0, 3]) (by kernel_rfl) (by simp) ?_
              refine AllReadyH.cons (o := _) rfl (fun K hK => ?_) (AllReadyH.cons (o := _) rfl (fun K hK => ?_) AllReadyH.nil)
              · refine to_load 22 (.tmp 5) rfl rfl rfl g5 0 E rfl ((z0.five).range) HE0.out (hK.out _ _ trivial fun _ => ?_)
                simp only [Act.put, List.setIfInBounds_toArray, List.set_cons_zero, List.set_cons_succ]
                clear hK
                refine wpAnyH_ready (rs := [2, 3]) (by kernel_rfl) (by simp) ?_
                refine AllReadyH.cons (o := _) rfl (fun K hK => ?_) (AllReadyH.cons (o := _) rfl (fun K hK => ?_) AllReadyH.nil)
                · refine to_call 25 24 _ _ #[.agg (U E).toArray, .agg (U d1).toArray] _ rfl rfl rfl rfl enters_Chain (chain_all E d1 v0 HE0.out HD1.out (HKR.out _ z0.st.below)) (fun e v166 h5 => ⟨_, h5.1, ?_⟩)
                  have z165 := z0.step h5.2
                  refine hK.out _ _ trivial fun _ => ?_
                  clear h5
                  simp only [Act.put, List.setIfInBounds_toArray, List.set_cons_zero, List.set_cons_succ]
                  clear hK
                  refine wpAnyH_ready (rs := [3]) (by kernel_rfl) (by simp) ?_
                  refine AllReadyH.cons (o := _) rfl (fun K hK => ?_) AllReadyH.nil
                  · refine to_load 25 (.tmp 6) rfl rfl rfl g6 0 E rfl ((z165.six).range) HE0.out (hK.out _ _ trivial fun _ => ?_)
                    simp only [Act.put, List.setIfInBounds_toArray, List.set_cons_zero, List.set_cons_succ]
                    clear hK
                    refine wpAnyH_ready (rs := [5]) (by kernel_rfl) (by simp) ?_
                    refine AllReadyH.cons (o := _) rfl (fun K hK => ?_) AllReadyH.nil
                    · refine to_call 26 27 _ _ #[.agg (U E).toArray, .agg (U d1).toArray] _ rfl rfl rfl rfl enters_rChain (rchain_all E d1 v166 HE0.out HD1.out) (fun e v168 h5 => ⟨_, h5.1, ?_⟩)
                      have z167 := z165.step h5.2
                      refine hK.out _ _ trivial fun _ => ?_
                      clear h5
                      simp only [Act.put, List.setIfInBounds_toArray, List.set_cons_zero, List.set_cons_succ]
                      clear hK
                      refine wpAnyH_ready (rs := [6]) (by kernel_rfl) (by simp) ?_
                      refine AllReadyH.cons (o := _) rfl (fun K hK => ?_) AllReadyH.nil
                      · have z169 := z167.set5 (chaind E d1)
                        refine to_store (.tmp 5) (.tmp 24) rfl rfl rfl g5 E (chaind E d1) rfl rfl z167.five HE0.out (tagd_len _ _) (hK.out _ _ trivial fun _ => ?_)
                        revert z169; generalize World.setRow v168 _ _ = v170; intro z169
                        clear hK
                        refine wpAnyH_ready (rs := [7]) (by kernel_rfl) (by simp) ?_
                        refine AllReadyH.cons (o := _) rfl (fun K hK => ?_) AllReadyH.nil
                        · have z171 := z169.set6 (chaind E d1)
                          refine to_store (.tmp 6) (.tmp 27) rfl rfl rfl g6 E (chaind E d1) rfl rfl z169.six HE0.out (tagd_len _ _) (hK.out _ _ trivial fun _ => ?_)
                          revert z171; generalize World.setRow v170 _ _ = v172; intro z171
                          clear hK
                          refine wpAnyH_done (by kernel_rfl) (NoPanic.normal ?_) _
                          have HE := Lib.hid z171
                          go_wp2_with fail
                          go_meet
                          exact HE.out
                · refine to_load 25 (.tmp 6) rfl rfl rfl g6 0 E rfl ((z0.six).range) HE0.out (hK.out _ _ trivial fun _ => ?_)
                  simp only [Act.put, List.setIfInBounds_toArray, List.set_cons_zero, List.set_cons_succ]
                  clear hK
                  refine wpAnyH_ready (rs := [2]) (by kernel_rfl) (by simp) ?_
                  refine AllReadyH.cons (o := _) rfl (fun K hK => ?_) AllReadyH.nil
                  · refine to_call 25 24 _ _ #[.agg (U E).toArray, .agg (U d1).toArray] _ rfl rfl rfl rfl enters_Chain (chain_all E d1 v0 HE0.out HD1.out (HKR.out _ z0.st.below)) (fun e v174 h5 => ⟨_, h5.1, ?_⟩)
                    have z173 := z0.step h5.2
                    refine hK.out _ _ trivial fun _ => ?_
                    clear h5
                    simp only [Act.put, List.setIfInBounds_toArray, List.set_cons_zero, List.set_cons_succ]
                    clear hK
                    refine wpAnyH_ready (rs := [5]) (by kernel_rfl) (by simp) ?_
                    refine AllReadyH.cons (o := _) rfl (fun K hK => ?_) AllReadyH.nil
                    · refine to_call 26 27 _ _ #[.agg (U E).toArray, .agg (U d1).toArray] _ rfl rfl rfl rfl enters_rChain (rchain_all E d1 v174 HE0.out HD1.out) (fun e v176 h5 => ⟨_, h5.1, ?_⟩)
                      have z175 := z173.step h5.2
                      refine hK.out _ _ trivial fun _ => ?_
                      clear h5
                      simp only [Act.put, List.setIfInBounds_toArray, List.set_cons_zero, List.set_cons_succ]
                      clear hK
                      refine wpAnyH_ready (rs := [6]) (by kernel_rfl) (by simp) ?_
                      refine AllReadyH.cons (o := _) rfl (fun K hK => ?_) AllReadyH.nil
                      · have z177 := z175.set5 (chaind E d1)
                        refine to_store (.tmp 5) (.tmp 24) rfl rfl rfl g5 E (chaind E d1) rfl rfl z175.five HE0.out (tagd_len _ _) (hK.out _ _ trivial fun _ => ?_)
                        revert z177; generalize World.setRow v176 _ _ = v178; intro z177
                        clear hK
                        refine wpAnyH_ready (rs := [7]) (by kernel_rfl) (by simp) ?_
                        refine AllReadyH.cons (o := _) rfl (fun K hK => ?_) AllReadyH.nil
                        · have z179 := z177.set6 (chaind E d1)
                          refine to_store (.tmp 6) (.tmp 27) rfl rfl rfl g6 E (chaind E d1) rfl rfl z177.six HE0.out (tagd_len _ _) (hK.out _ _ trivial fun _ => ?_)
                          revert z179; generalize World.setRow v178 _ _ = v180; intro z179
                          clear hK
                          refine wpAnyH_done (by kernel_rfl) (NoPanic.normal ?_) _
                          have HE := Lib.hid z179
                          go_wp2_with fail
                          go_meet
                          exact HE.out
              · refine to_load 25 (.tmp 6) rfl rfl rfl g6 0 E rfl ((z0.six).range) HE0.out (hK.out _ _ trivial fun _ => ?_)
                simp only [Act.put, List.setIfInBounds_toArray, List.set_cons_zero, List.set_cons_succ]
                clear hK
                refine wpAnyH_ready (rs := [0]) (by kernel_rfl) (by simp) ?_
                refine AllReadyH.cons (o := _) rfl (fun K hK => ?_) AllReadyH.nil
                · refine to_load 22 (.tmp 5) rfl rfl rfl g5 0 E rfl ((z0.five).range) HE0.out (hK.out _ _ trivial fun _ => ?_)
                  simp only [Act.put, List.setIfInBounds_toArray, List.set_cons_zero, List.set_cons_succ]
                  clear hK
                  refine wpAnyH_ready (rs := [2]) (by kernel_rfl) (by simp) ?_
                  refine AllReadyH.cons (o := _) rfl (fun K hK => ?_) AllReadyH.nil
                  · refine to_call 25 24 _ _ #[.agg (U E).toArray, .agg (U d1).toArray] _ rfl rfl rfl rfl enters_Chain (chain_all E d1 v0 HE0.out HD1.out (HKR.out _ z0.st.below)) (fun e v182 h5 => ⟨_, h5.1, ?_⟩)
                    have z181 := z0.step h5.2
                    refine hK.out _ _ trivial fun _ => ?_
                    clear h5
                    simp only [Act.put, List.setIfInBounds_toArray, List.set_cons_zero, List.set_cons_succ]
                    clear hK
                    refine wpAnyH_ready (rs := [5]) (by kernel_rfl) (by simp) ?_
                    refine AllReadyH.cons (o := _) rfl (fun K hK => ?_) AllReadyH.nil
                    · refine to_call 26 27 _ _ #[.agg (U E).toArray, .agg (U d1).toArray] _ rfl rfl rfl rfl enters_rChain (rchain_all E d1 v182 HE0.out HD1.out) (fun e v184 h5 => ⟨_, h5.1, ?_⟩)
                      have z183 := z181.step h5.2
                      refine hK.out _ _ trivial fun _ => ?_
                      clear h5
                      simp only [Act.put, List.setIfInBounds_toArray, List.set_cons_zero, List.set_cons_succ]
                      clear hK
                      refine wpAnyH_ready (rs := [6]) (by kernel_rfl) (by simp) ?_
                      refine AllReadyH.cons (o := _) rfl (fun K hK => ?_) AllReadyH.nil
                      · have z185 := z183.set5 (chaind E d1)
                        refine to_store (.tmp 5) (.tmp 24) rfl rfl rfl g5 E (chaind E d1) rfl rfl z183.five HE0.out (tagd_len _ _) (hK.out _ _ trivial fun _ => ?_)
                        revert z185; generalize World.setRow v184 _ _ = v186; intro z185
                        clear hK
                        refine wpAnyH_ready (rs := [7]) (by kernel_rfl) (by simp) ?_
                        refine AllReadyH.cons (o := _) rfl (fun K hK => ?_) AllReadyH.nil
                        · have z187 := z185.set6 (chaind E d1)
                          refine to_store (.tmp 6) (.tmp 27) rfl rfl rfl g6 E (chaind E d1) rfl rfl z185.six HE0.out (tagd_len _ _) (hK.out _ _ trivial fun _ => ?_)
                          revert z187; generalize World.setRow v186 _ _ = v188; intro z187
                          clear hK
                          refine wpAnyH_done (by kernel_rfl) (NoPanic.normal ?_) _
                          have HE := Lib.hid z187
                          go_wp2_with fail
                          go_meet
                          exact HE.out
          · refine to_load 25 (.tmp 6) rfl rfl rfl g6 0 E rfl ((z0.six).range) HE0.out (hK.out _ _ trivial fun _ => ?_)
            simp only [Act.put, List.setIfInBounds_toArray, List.set_cons_zero, List.set_cons_succ]
            clear hK
            refine wpAnyH_ready (rs := [0, 1, 4]) (by kernel_rfl) (by simp) ?_
            refine AllReadyH.cons (o := _) rfl (fun K hK => ?_) (AllReadyH.cons (o := _) rfl (fun K hK => ?_) (AllReadyH.cons (o := _) rfl (fun K hK => ?_) AllReadyH.nil))
            · refine to_load 22 (.tmp 5) rfl rfl rfl g5 0 E rfl ((z0.five).range) HE0.out (hK.out _ _ trivial fun _ => ?_)
              simp only [Act.put, List.setIfInBounds_toArray, List.set_cons_zero, List.set_cons_succ]
              clear hK
              refine wpAnyH_ready (rs := [1, 4]) (by kernel_rfl) (by simp) ?_
              refine AllReadyH.cons (o := _) rfl (fun K hK => ?_) (AllReadyH.cons (o := _) rfl (fun K hK => ?_) AllReadyH.nil)
              · refine to_load 23 (.tmp 8) rfl rfl rfl wr.heap.size 0 d1 rfl ((z0.eight).range) HD1.out (hK.out _ _ trivial fun _ => ?_)
                simp only [Act.put, List.setIfInBounds_toArray, List.set_cons_zero, List.set_cons_succ]
                clear hK
                refine wpAnyH_ready (rs := [2, 4]) (by kernel_rfl) (by simp) ?_
                refine AllReadyH.cons (o := _) rfl (fun K hK => ?_) (AllReadyH.cons (o := _) rfl (fun K hK => ?_) AllReadyH.nil)
                · refine to_call 25 24 _ _ #[.agg (U E).toArray, .agg (U d1).toArray] _ rfl rfl rfl rfl enters_Chain (chain_all E d1 v0 HE0.out HD1.out (HKR.out _ z0.st.below)) (fun e v190 h5 => ⟨_, h5.1, ?_⟩)
                  have z189 := z0.step h5.2
                  refine hK.out _ _ trivial fun _ => ?_
                  clear h5
                  simp only [Act.put, List.setIfInBounds_toArray, List.set_cons_zero, List.set_cons_succ]
                  clear hK
                  refine wpAnyH_ready (rs := [4]) (by kernel_rfl) (by simp) ?_
                  refine AllReadyH.cons (o := _) rfl (fun K hK => ?_) AllReadyH.nil
                  · refine to_load 26 (.tmp 8) rfl rfl rfl wr.heap.size 0 d1 rfl ((z189.eight).range) HD1.out (hK.out _ _ trivial fun _ => ?_)
                    simp only [Act.put, List.setIfInBounds_toArray, List.set_cons_zero, List.set_cons_succ]
                    clear hK
                    refine wpAnyH_ready (rs := [5]) (by kernel_rfl) (by simp) ?_
                    refine AllReadyH.cons (o := _) rfl (fun K hK => ?_) AllReadyH.nil
                    · refine to_call 26 27 _ _ #[.agg (U E).toArray, .agg (U d1).toArray] _ rfl rfl rfl rfl enters_rChain (rchain_all E d1 v190 HE0.out HD1.out) (fun e v192 h5 => ⟨_, h5.1, ?_⟩)
                      have z191 := z189.step h5.2
                      refine hK.out _ _ trivial fun _ => ?_
                      clear h5
                      simp only [Act.put, List.setIfInBounds_toArray, List.set_cons_zero, List.set_cons_succ]
                      clear hK
                      refine wpAnyH_ready (rs := [6]) (by kernel_rfl) (by simp) ?_
                      refine AllReadyH.cons (o := _) rfl (fun K hK => ?_) AllReadyH.nil
                      · have z193 := z191.set5 (chaind E d1)
                        refine to_store (.tmp 5) (.tmp 24) rfl rfl rfl g5 E (chaind E d1) rfl rfl z191.five HE0.out (tagd_len _ _) (hK.out _ _ trivial fun _ => ?_)
                        revert z193; generalize World.setRow v192 _ _ = v194; intro z193
                        clear hK
                        refine wpAnyH_ready (rs := [7]) (by kernel_rfl) (by simp) ?_
                        refine AllReadyH.cons (o := _) rfl (fun K hK => ?_) AllReadyH.nil
                        · have z195 := z193.set6 (chaind E d1)
                          refine to_store (.tmp 6) (.tmp 27) rfl rfl rfl g6 E (chaind E d1) rfl rfl z193.six HE0.out (tagd_len _ _) (hK.out _ _ trivial fun _ => ?_)
                          revert z195; generalize World.setRow v194 _ _ = v196; intro z195
                          clear hK
                          refine wpAnyH_done (by kernel_rfl) (NoPanic.normal ?_) _
                          have HE := Lib.hid z195
                          go_wp2_with fail
                          go_meet
                          exact HE.out
                · refine to_load 26 (.tmp 8) rfl rfl rfl wr.heap.size 0 d1 rfl ((z0.eight).range) HD1.out (hK.out _ _ trivial fun _ => ?_)
                  simp only [Act.put, List.setIfInBounds_toArray, List.set_cons_zero, List.set_cons_succ]
                  clear hK
                  refine wpAnyH_ready (rs := [2]) (by kernel_rfl) (by simp) ?_
                  refine AllReadyH.cons (o := _) rfl (fun K hK => ?_) AllReadyH.nil
                  · refine to_call 25 24 _ _ #[.agg (U E).toArray, .agg (U d1).toArray] _ rfl rfl rfl rfl enters_Chain (chain_all E d1 v0 HE0.out HD1.out (HKR.out _ z0.st.below)) (fun e v198 h5 => ⟨_, h5.1, ?_⟩)
                    have z197 := z0.step h5.2
                    refine hK.out _ _ trivial fun _ => ?_
                    clear h5
                    simp only [Act.put, List.setIfInBounds_toArray, List.set_cons_zero, List.set_cons_succ]
                    clear hK
                    refine wpAnyH_ready (rs := [5]) (by kernel_rfl) (by simp) ?_
                    refine AllReadyH.cons (o := _) rfl (fun K hK => ?_) AllReadyH.nil
                    · refine to_call 26 27 _ _ #[.agg (U E).toArray, .agg (U d1).toArray] _ rfl rfl rfl rfl enters_rChain (rchain_all E d1 v198 HE0.out HD1.out) (fun e v200 h5 => ⟨_, h5.1, ?_⟩)
                      have z199 := z197.step h5.2
                      refine hK.out _ _ trivial fun _ => ?_
                      clear h5
                      simp only [Act.put, List.setIfInBounds_toArray, List.set_cons_zero, List.set_cons_succ]
                      clear hK
                      refine wpAnyH_ready (rs := [6]) (by kernel_rfl) (by simp) ?_
                      refine AllReadyH.cons (o := _) rfl (fun K hK => ?_) AllReadyH.nil
                      · have z201 := z199.set5 (chaind E d1)
                        refine to_store (.tmp 5) (.tmp 24) rfl rfl rfl g5 E (chaind E d1) rfl rfl z199.five HE0.out (tagd_len _ _) (hK.out _ _ trivial fun _ => ?_)
                        revert z201; generalize World.setRow v200 _ _ = v202; intro z201
                        clear hK
                        refine wpAnyH_ready (rs := [7]) (by kernel_rfl) (by simp) ?_
                        refine AllReadyH.cons (o := _) rfl (fun K hK => ?_) AllReadyH.nil
                        · have z203 := z201.set6 (chaind E d1)
                          refine to_store (.tmp 6) (.tmp 27) rfl rfl rfl g6 E (chaind E d1) rfl rfl z201.six HE0.out (tagd_len _ _) (hK.out _ _ trivial fun _ => ?_)
                          revert z203; generalize World.setRow v202 _ _ = v204; intro z203
                          clear hK
                          refine wpAnyH_done (by kernel_rfl) (NoPanic.normal ?_) _
                          have HE := Lib.hid z203
                          go_wp2_with fail
                          go_meet
                          exact HE.out
              · refine to_load 26 (.tmp 8) rfl rfl rfl wr.heap.size 0 d1 rfl ((z0.eight).range) HD1.out (hK.out _ _ trivial fun _ => ?_)
                simp only [Act.put, List.setIfInBounds_toArray, List.set_cons_zero, List.set_cons_succ]
                clear hK
                refine wpAnyH_ready (rs := [1]) (by kernel_rfl) (by simp) ?_
                refine AllReadyH.cons (o := _) rfl (fun K hK => ?_) AllReadyH.nil
                · refine to_load 23 (.tmp 8) rfl rfl rfl wr.heap.size 0 d1 rfl ((z0.eight).range) HD1.out (hK.out _ _ trivial fun _ => ?_)
                  simp only [Act.put, List.setIfInBounds_toArray, List.set_cons_zero, List.set_cons_succ]
                  clear hK
                  refine wpAnyH_ready (rs := [2]) (by kernel_rfl) (by simp) ?_
                  refine AllReadyH.cons (o := _) rfl (fun K hK => ?_) AllReadyH.nil
                  · refine to_call 25 24 _ _ #[.agg (U E).toArray, .agg (U d1).toArray] _ rfl rfl rfl rfl enters_Chain (chain_all E d1 v0 HE0.out HD1.out (HKR.out _ z0.st.below)) (fun e v206 h5 => ⟨_, h5.1, ?_⟩)
                    have z205 := z0.step h5.2
                    refine hK.out _ _ trivial fun _ => ?_
                    clear h5
                    simp only [Act.put, List.setIfInBounds_toArray, List.set_cons_zero, List.set_cons_succ]
                    clear hK
                    refine wpAnyH_ready (rs := [5]) (by kernel_rfl) (by simp) ?_
                    refine AllReadyH.cons (o := _) rfl (fun K hK => ?_) AllReadyH.nil
                    · refine to_call 26 27 _ _ #[.agg (U E).toArray, .agg (U d1).toArray] _ rfl rfl rfl rfl enters_rChain (rchain_all E d1 v206 HE0.out HD1.out) (fun e v208 h5 => ⟨_, h5.1, ?_⟩)
                      have z207 := z205.step h5.2
                      refine hK.out _ _ trivial fun _ => ?_
                      clear h5
                      simp only [Act.put, List.setIfInBounds_toArray, List.set_cons_zero, List.set_cons_succ]
                      clear hK
                      refine wpAnyH_ready (rs := [6]) (by kernel_rfl) (by simp) ?_
                      refine AllReadyH.cons (o := _) rfl (fun K hK => ?_) AllReadyH.nil
                      · have z209 := z207.set5 (chaind E d1)
                        refine to_store (.tmp 5) (.tmp 24) rfl rfl rfl g5 E (chaind E d1) rfl rfl z207.five HE0.out (tagd_len _ _) (hK.out _ _ trivial fun _ => ?_)
                        revert z209; generalize World.setRow v208 _ _ = v210; intro z209
                        clear hK
                        refine wpAnyH_ready (rs := [7]) (by kernel_rfl) (by simp) ?_
                        refine AllReadyH.cons (o := _) rfl (fun K hK => ?_) AllReadyH.nil
                        · have z211 := z209.set6 (chaind E d1)
                          refine to_store (.tmp 6) (.tmp 27) rfl rfl rfl g6 E (chaind E d1) rfl rfl z209.six HE0.out (tagd_len _ _) (hK.out _ _ trivial fun _ => ?_)
                          revert z211; generalize World.setRow v210 _ _ = v212; intro z211
                          clear hK
                          refine wpAnyH_done (by kernel_rfl) (NoPanic.normal ?_) _
                          have HE := Lib.hid z211
                          go_wp2_with fail
                          go_meet
                          exact HE.out
            · refine to_load 23 (.tmp 8) rfl rfl rfl wr.heap.size 0 d1 rfl ((z0.eight).range) HD1.out (hK.out _ _ trivial fun _ => ?_)
              simp only [Act.put, List.setIfInBounds_toArray, List.set_cons_zero, List.set_cons_succ]
              clear hK
              refine wpAnyH_ready (rs := [0, 4]) (by kernel_rfl) (by simp) ?_
              refine AllReadyH.cons (o := _) rfl (fun K hK => ?_) (AllReadyH.cons (o := _) rfl (fun K hK => ?_) AllReadyH.nil)
              · refine to_load 22 (.tmp 5) rfl rfl rfl g5 0 E rfl ((z0.five).range) HE0.out (hK.out _ _ trivial fun _ => ?_)
                simp only [Act.put, List.setIfInBounds_toArray, List.set_cons_zero, List.set_cons_succ]
                clear hK
                refine wpAnyH_ready (rs := [2, 4]) (by kernel_rfl) (by simp) ?_
                refine AllReadyH.cons (o := _) rfl (fun K hK => ?_) (AllReadyH.cons (o := _) rfl (fun K hK => ?_) AllReadyH.nil)
                · refine to_call 25 24 _ _ #[.agg (U E).toArray, .agg (U d1).toArray] _ rfl rfl rfl rfl enters_Chain (chain_all E d1 v0 HE0.out HD1.out (HKR.out _ z0.st.below)) (fun e v214 h5 => ⟨_, h5.1, ?_⟩)
                  have z213 := z0.step h5.2
                  refine hK.out _ _ trivial fun _ => ?_
                  clear h5
                  simp only [Act.put, List.setIfInBounds_toArray, List.set_cons_zero, List.set_cons_succ]
                  clear hK
                  refine wpAnyH_ready (rs := [4]) (by kernel_rfl) (by simp) ?_
                  refine AllReadyH.cons (o := _) rfl (fun K hK => ?_) AllReadyH.nil
                  · refine to_load 26 (.tmp 8) rfl rfl rfl wr.heap.size 0 d1 rfl ((z213.eight).range) HD1.out (hK.out _ _ trivial fun _ => ?_)
                    simp only [Act.put, List.setIfInBounds_toArray, List.set_cons_zero, List.set_cons_succ]
                    clear hK
                    refine wpAnyH_ready (rs := [5]) (by kernel_rfl) (by simp) ?_
                    refine AllReadyH.cons (o := _) rfl (fun K hK => ?_) AllReadyH.nil
                    · refine to_call 26 27 _ _ #[.agg (U E).toArray, .agg (U d1).toArray] _ rfl rfl rfl rfl enters_rChain (rchain_all E d1 v214 HE0.out HD1.out) (fun e v216 h5 => ⟨_, h5.1, ?_⟩)
                      have z215 := z213.step h5.2
                      refine hK.out _ _ trivial fun _ => ?_
                      clear h5
                      simp only [Act.put, List.setIfInBounds_toArray, List.set_cons_zero, List.set_cons_succ]
                      clear hK
                      refine wpAnyH_ready (rs := [6]) (by kernel_rfl) (by simp) ?_
                      refine AllReadyH.cons (o := _) rfl (fun K hK => ?_) AllReadyH.nil
                      · have z217 := z215.set5 (chaind E d1)
                        refine to_store (.tmp 5) (.tmp 24) rfl rfl rfl g5 E (chaind E d1) rfl rfl z215.five HE0.out (tagd_len _ _) (hK.out _ _ trivial fun _ => ?_)
                        revert z217; generalize World.setRow v216 _ _ = v218; intro z217
                        clear hK
                        refine wpAnyH_ready (rs := [7]) (by kernel_rfl) (by simp) ?_
                        refine AllReadyH.cons (o := _) rfl (fun K hK => ?_) AllReadyH.nil
                        · have z219 := z217.set6 (chaind E d1)
                          refine to_store (.tmp 6) (.tmp 27) rfl rfl rfl g6 E (chaind E d1) rfl rfl z217.six HE0.out (tagd_len _ _) (hK.out _ _ trivial fun _ => ?_)
                          revert z219; generalize World.setRow v218 _ _ = v220; intro z219
                          clear hK
                          refine wpAnyH_done (by kernel_rfl) (NoPanic.normal ?_) _
                          have HE := Lib.hid z219
                          go_wp2_with fail
                          go_meet
                          exact HE.out
                · refine to_load 26 (.tmp 8) rfl rfl rfl wr.heap.size 0 d1 rfl ((z0.eight).range) HD1.out (hK.out _ _ trivial fun _ => ?_)
                  simp only [Act.put, List.setIfInBounds_toArray, List.set_cons_zero, List.set_cons_succ]
                  clear hK
                  refine wpAnyH_ready (rs := [2]) (by kernel_rfl) (by simp) ?_
                  refine AllReadyH.cons (o := _) rfl (fun K hK => ?_) AllReadyH.nil
                  · refine to_call 25 24 _ _ #[.agg (U E).toArray, .agg (U d1).toArray] _ rfl rfl rfl rfl enters_Chain (chain_all E d1 v0 HE0.out HD1.out (HKR.out _ z0.st.below)) (fun e v222 h5 => ⟨_, h5.1, ?_⟩)
                    have z221 := z0.step h5.2
                    refine hK.out _ _ trivial fun _ => ?_
                    clear h5
                    simp only [Act.put, List.setIfInBounds_toArray, List.set_cons_zero, List.set_cons_succ]
                    clear hK
                    refine wpAnyH_ready (rs := [5]) (by kernel_rfl) (by simp) ?_
                    refine AllReadyH.cons (o := _) rfl (fun K hK => ?_) AllReadyH.nil
                    · refine to_call 26 27 _ _ #[.agg (U E).toArray, .agg (U d1).toArray] _ rfl rfl rfl rfl enters_rChain (rchain_all E d1 v222 HE0.out HD1.out) (fun e v224 h5 => ⟨_, h5.1, ?_⟩)
                      have z223 := z221.step h5.2
                      refine hK.out _ _ trivial fun _ => ?_
                      clear h5
                      simp only [Act.put, List.setIfInBounds_toArray, List.set_cons_zero, List.set_cons_succ]
                      clear hK
                      refine wpAnyH_ready (rs := [6]) (by kernel_rfl) (by simp) ?_
                      refine AllReadyH.cons (o := _) rfl (fun K hK => ?_) AllReadyH.nil
                      · have z225 := z223.set5 (chaind E d1)
                        refine to_store (.tmp 5) (.tmp 24) rfl rfl rfl g5 E (chaind E d1) rfl rfl z223.five HE0.out (tagd_len _ _) (hK.out _ _ trivial fun _ => ?_)
                        revert z225; generalize World.setRow v224 _ _ = v226; intro z225
                        clear hK
                        refine wpAnyH_ready (rs := [7]) (by kernel_rfl) (by simp) ?_
                        refine AllReadyH.cons (o := _) rfl (fun K hK => ?_) AllReadyH.nil
                        · have z227 := z225.set6 (chaind E d1)
                          refine to_store (.tmp 6) (.tmp 27) rfl rfl rfl g6 E (chaind E d1) rfl rfl z225.six HE0.out (tagd_len _ _) (hK.out _ _ trivial fun _ => ?_)
                          revert z227; generalize World.setRow v226 _ _ = v228; intro z227
                          clear hK
                          refine wpAnyH_done (by kernel_rfl) (NoPanic.normal ?_) _
                          have HE := Lib.hid z227
                          go_wp2_with fail
                          go_meet
                          exact HE.out
              · refine to_load 26 (.tmp 8) rfl rfl rfl wr.heap.size 0 d1 rfl ((z0.eight).range) HD1.out (hK.out _ _ trivial fun _ => ?_)
                simp only [Act.put, List.setIfInBounds_toArray, List.set_cons_zero, List.set_cons_succ]
                clear hK
                refine wpAnyH_ready (rs := [0]) (by kernel_rfl) (by simp) ?_
                refine AllReadyH.cons (o := _) rfl (fun K hK => ?_) AllReadyH.nil
                · refine to_load 22 (.tmp 5) rfl rfl rfl g5 0 E rfl ((z0.five).range) HE0.out (hK.out _ _ trivial fun _ => ?_)
                  simp only [Act.put, List.setIfInBounds_toArray, List.set_cons_zero, List.set_cons_succ]
                  clear hK
                  refine wpAnyH_ready (rs := [2]) (by kernel_rfl) (by simp) ?_
                  refine AllReadyH.cons (o := _) rfl (fun K hK => ?_) AllReadyH.nil
                  · refine to_call 25 24 _ _ #[.agg (U E).toArray, .agg (U d1).toArray] _ rfl rfl rfl rfl enters_Chain (chain_all E d1 v0 HE0.out HD1.out (HKR.out _ z0.st.below)) (fun e v230 h5 => ⟨_, h5.1, ?_⟩)
                    have z229 := z0.step h5.2
                    refine hK.out _ _ trivial fun _ => ?_
                    clear h5
                    simp only [Act.put, List.setIfInBounds_toArray, List.set_cons_zero, List.set_cons_succ]
                    clear hK
                    refine wpAnyH_ready (rs := [5]) (by kernel_rfl) (by simp) ?_
                    refine AllReadyH.cons (o := _) rfl (fun K hK => ?_) AllReadyH.nil
                    · refine to_call 26 27 _ _ #[.agg (U E).toArray, .agg (U d1).toArray] _ rfl rfl rfl rfl enters_rChain (rchain_all E d1 v230 HE0.out HD1.out) (fun e v232 h5 => ⟨_, h5.1, ?_⟩)
                      have z231 := z229.step h5.2
                      refine hK.out _ _ trivial fun _ => ?_
                      clear h5
                      simp only [Act.put, List.setIfInBounds_toArray, List.set_cons_zero, List.set_cons_succ]
                      clear hK
                      refine wpAnyH_ready (rs := [6]) (by kernel_rfl) (by simp) ?_
                      refine AllReadyH.cons (o := _) rfl (fun K hK => ?_) AllReadyH.nil
                      · have z233 := z231.set5 (chaind E d1)
                        refine to_store (.tmp 5) (.tmp 24) rfl rfl rfl g5 E (chaind E d1) rfl rfl z231.five HE0.out (tagd_len _ _) (hK.out _ _ trivial fun _ => ?_)
                        revert z233; generalize World.setRow v232 _ _ = v234; intro z233
                        clear hK
                        refine wpAnyH_ready (rs := [7]) (by kernel_rfl) (by simp) ?_
                        refine AllReadyH.cons (o := _) rfl (fun K hK => ?_) AllReadyH.nil
                        · have z235 := z233.set6 (chaind E d1)
                          refine to_store (.tmp 6) (.tmp 27) rfl rfl rfl g6 E (chaind E d1) rfl rfl z233.six HE0.out (tagd_len _ _) (hK.out _ _ trivial fun _ => ?_)
                          revert z235; generalize World.setRow v234 _ _ = v236; intro z235
                          clear hK
                          refine wpAnyH_done (by kernel_rfl) (NoPanic.normal ?_) _
                          have HE := Lib.hid z235
                          go_wp2_with fail
                          go_meet
                          exact HE.out
            · refine to_load 26 (.tmp 8) rfl rfl rfl wr.heap.size 0 d1 rfl ((z0.eight).range) HD1.out (hK.out _ _ trivial fun _ => ?_)
              simp only [Act.put, List.setIfInBounds_toArray, List.set_cons_zero, List.set_cons_succ]
              clear hK
              refine wpAnyH_ready (rs := [0, 1]) (by kernel_rfl) (by simp) ?_
              refine AllReadyH.cons (o := _) rfl (fun K hK => ?_) (AllReadyH.cons (o := _) rfl (fun K hK => ?_) AllReadyH.nil)
              · refine to_load 22 (.tmp 5) rfl rfl rfl g5 0 E rfl ((z0.five).range) HE0.out (hK.out _ _ trivial fun _ => ?_)
                simp only [Act.put, List.setIfInBounds_toArray, List.set_cons_zero, List.set_cons_succ]
                clear hK
                refine wpAnyH_ready (rs := [1]) (by kernel_rfl) (by simp) ?_
                refine AllReadyH.cons (o := _) rfl (fun K hK => ?_) AllReadyH.nil
                · refine to_load 23 (.tmp 8) rfl rfl rfl wr.heap.size 0 d1 rfl ((z0.eight).range) HD1.out (hK.out _ _ trivial fun _ => ?_)
                  simp only [Act.put, List.setIfInBounds_toArray, List.set_cons_zero, List.set_cons_succ]
                  clear hK
                  refine wpAnyH_ready (rs := [2]) (by kernel_rfl) (by simp) ?_
                  refine AllReadyH.cons (o := _) rfl (fun K hK => ?_) AllReadyH.nil
                  · refine to_call 25 24 _ _ #[.agg (U E).toArray, .agg (U d1).toArray] _ rfl rfl rfl rfl enters_Chain (chain_all E d1 v0 HE0.out HD1.out (HKR.out _ z0.st.below)) (fun e v238 h5 => ⟨_, h5.1, ?_⟩)
                    have z237 := z0.step h5.2
                    refine hK.out _ _ trivial fun _ => ?_
                    clear h5
                    simp only [Act.put, List.setIfInBounds_toArray, List.set_cons_zero, List.set_cons_succ]
                    clear hK
                    refine wpAnyH_ready (rs := [5]) (by kernel_rfl) (by simp) ?_
                    refine AllReadyH.cons (o := _) rfl (fun K hK => ?_) AllReadyH.nil
                    · refine to_call 26 27 _ _ #[.agg (U E).toArray, .agg (U d1).toArray] _ rfl rfl rfl rfl enters_rChain (rchain_all E d1 v238 HE0.out HD1.out) (fun e v240 h5 => ⟨_, h5.1, ?_⟩)
                      have z239 := z237.step h5.2
                      refine hK.out _ _ trivial fun _ => ?_
                      clear h5
                      simp only [Act.put, List.setIfInBounds_toArray, List.set_cons_zero, List.set_cons_succ]
                      clear hK
                      refine wpAnyH_ready (rs := [6]) (by kernel_rfl) (by simp) ?_
                      refine AllReadyH.cons (o := _) rfl (fun K hK => ?_) AllReadyH.nil
                      · have z241 := z239.set5 (chaind E d1)
                        refine to_store (.tmp 5) (.tmp 24) rfl rfl rfl g5 E (chaind E d1) rfl rfl z239.five HE0.out (tagd_len _ _) (hK.out _ _ trivial fun _ => ?_)
                        revert z241; generalize World.setRow v240 _ _ = v242; intro z241
                        clear hK
                        refine wpAnyH_ready (rs := [7]) (by kernel_rfl) (by simp) ?_
                        refine AllReadyH.cons (o := _) rfl (fun K hK => ?_) AllReadyH.nil
                        · have z243 := z241.set6 (chaind E d1)
                          refine to_store (.tmp 6) (.tmp 27) rfl rfl rfl g6 E (chaind E d1) rfl rfl z241.six HE0.out (tagd_len _ _) (hK.out _ _ trivial fun _ => ?_)
                          revert z243; generalize World.setRow v242 _ _ = v244; intro z243
                          clear hK
                          refine wpAnyH_done (by kernel_rfl) (NoPanic.normal ?_) _
                          have HE := Lib.hid z243
                          go_wp2_with fail
                          go_meet
                          exact HE.out
              · refine to_load 23 (.tmp 8) rfl rfl rfl wr.heap.size 0 d1 rfl ((z0.eight).range) HD1.out (hK.out _ _ trivial fun _ => ?_)
                simp only [Act.put, List.setIfInBounds_toArray, List.set_cons_zero, List.set_cons_succ]
                clear hK
                refine wpAnyH_ready (rs := [0]) (by kernel_rfl) (by simp) ?_
                refine AllReadyH.cons (o := _) rfl (fun K hK => ?_) AllReadyH.nil
                · refine to_load 22 (.tmp 5) rfl rfl rfl g5 0 E rfl ((z0.five).range) HE0.out (hK.out _ _ trivial fun _ => ?_)
                  simp only [Act.put, List.setIfInBounds_toArray, List.set_cons_zero, List.set_cons_succ]
                  clear hK
                  refine wpAnyH_ready (rs := [2]) (by kernel_rfl) (by simp) ?_
                  refine AllReadyH.cons (o := _) rfl (fun K hK => ?_) AllReadyH.nil
                  · refine to_call 25 24 _ _ #[.agg (U E).toArray, .agg (U d1).toArray] _ rfl rfl rfl rfl enters_Chain (chain_all E d1 v0 HE0.out HD1.out (HKR.out _ z0.st.below)) (fun e v246 h5 => ⟨_, h5.1, ?_⟩)
                    have z245 := z0.step h5.2
                    refine hK.out _ _ trivial fun _ => ?_
                    clear h5
                    simp only [Act.put, List.setIfInBounds_toArray, List.set_cons_zero, List.set_cons_succ]
                    clear hK
                    refine wpAnyH_ready (rs := [5]) (by kernel_rfl) (by simp) ?_
                    refine AllReadyH.cons (o := _) rfl (fun K hK => ?_) AllReadyH.nil
                    · refine to_call 26 27 _ _ #[.agg (U E).toArray, .agg (U d1).toArray] _ rfl rfl rfl rfl enters_rChain (rchain_all E d1 v246 HE0.out HD1.out) (fun e v248 h5 => ⟨_, h5.1, ?_⟩)
                      have z247 := z245.step h5.2
                      refine hK.out _ _ trivial fun _ => ?_
                      clear h5
                      simp only [Act.put, List.setIfInBounds_toArray, List.set_cons_zero, List.set_cons_succ]
                      clear hK
                      refine wpAnyH_ready (rs := [6]) (by kernel_rfl) (by simp) ?_
                      refine AllReadyH.cons (o := _) rfl (fun K hK => ?_) AllReadyH.nil
                      · have z249 := z247.set5 (chaind E d1)
                        refine to_store (.tmp 5) (.tmp 24) rfl rfl rfl g5 E (chaind E d1) rfl rfl z247.five HE0.out (tagd_len _ _) (hK.out _ _ trivial fun _ => ?_)
                        revert z249; generalize World.setRow v248 _ _ = v250; intro z249
                        clear hK
                        refine wpAnyH_ready (rs := [7]) (by kernel_rfl) (by simp) ?_
                        refine AllReadyH.cons (o := _) rfl (fun K hK => ?_) AllReadyH.nil
                        · have z251 := z249.set6 (chaind E d1)
                          refine to_store (.tmp 6) (.tmp 27) rfl rfl rfl g6 E (chaind E d1) rfl rfl z249.six HE0.out (tagd_len _ _) (hK.out _ _ trivial fun _ => ?_)
                          revert z251; generalize World.setRow v250 _ _ = v252; intro z251
                          clear hK
                          refine wpAnyH_done (by kernel_rfl) (NoPanic.normal ?_) _
                          have HE := Lib.hid z251
                          go_wp2_with fail
                          go_meet
                          exact HE.out
          · refine to_load 26 (.tmp 8) rfl rfl rfl wr.heap.size 0 d1 rfl ((z0.eight).range) HD1.out (hK.out _ _ trivial fun _ => ?_)
            simp only [Act.put, List.setIfInBounds_toArray, List.set_cons_zero, List.set_cons_succ]
            clear hK
            refine wpAnyH_ready (rs := [0, 1, 3]) (by kernel_rfl) (by simp) ?_
            refine AllReadyH.cons (o := _) rfl (fun K hK => ?_) (AllReadyH.cons (o := _) rfl (fun K hK => ?_) (AllReadyH.cons (o := _) rfl (fun K hK => ?_) AllReadyH.nil))
            · refine to_load 22 (.tmp 5) rfl rfl rfl g5 0 E rfl ((z0.five).range) HE0.out (hK.out _ _ trivial fun _ => ?_)
              simp only [Act.put, List.setIfInBounds_toArray, List.set_cons_zero, List.set_cons_succ]
              clear hK
              refine wpAnyH_ready (rs := [1, 3]) (by kernel_rfl) (by simp) ?_
              refine AllReadyH.cons (o := _) rfl (fun K hK => ?_) (AllReadyH.cons (o := _) rfl (fun K hK => ?_) AllReadyH.nil)
              · refine to_load 23 (.tmp 8) rfl rfl rfl wr.heap.size 0 d1 rfl ((z0.eight).range) HD1.out (hK.out _ _ trivial fun _ => ?_)
                simp only [Act.put, List.setIfInBounds_toArray, List.set_cons_zero, List.set_cons_succ]
                clear hK
                refine wpAnyH_ready (rs := [2, 3]) (by kernel_rfl) (by simp) ?_
                refine AllReadyH.cons (o := _) rfl (fun K hK => ?_) (AllReadyH.cons (o := _) rfl (fun K hK => ?_) AllReadyH.nil)
                · refine to_call 25 24 _ _ #[.agg (U E).toArray, .agg (U d1).toArray] _ rfl rfl rfl rfl enters_Chain (chain_all E d1 v0 HE0.out HD1.out (HKR.out _ z0.st.below)) (fun e v254 h5 => ⟨_, h5.1, ?_⟩)
                  have z253 := z0.step h5.2
                  refine hK.out _ _ trivial fun _ => ?_
                  clear h5
                  simp only [Act.put, List.setIfInBounds_toArray, List.set_cons_zero, List.set_cons_succ]
                  clear hK
                  refine wpAnyH_ready (rs := [3]) (by kernel_rfl) (by simp) ?_
                  refine AllReadyH.cons (o := _) rfl (fun K hK => ?_) AllReadyH.nil
                  · refine to_load 25 (.tmp 6) rfl rfl rfl g6 0 E rfl ((z253.six).range) HE0.out (hK.out _ _ trivial fun _ => ?_)
                    simp only [Act.put, List.setIfInBounds_toArray, List.set_cons_zero, List.set_cons_succ]
                    clear hK
                    refine wpAnyH_ready (rs := [5]) (by kernel_rfl) (by simp) ?_
                    refine AllReadyH.cons (o := _) rfl (fun K hK => ?_) AllReadyH.nil
                    · refine to_call 26 27 _ _ #[.agg (U E).toArray, .agg (U d1).toArray] _ rfl rfl rfl rfl enters_rChain (rchain_all E d1 v254 HE0.out HD1.out) (fun e v256 h5 => ⟨_, h5.1, ?_⟩)
                      have z255 := z253.step h5.2
                      refine hK.out _ _ trivial fun _ => ?_
                      clear h5
                      simp only [Act.put, List.setIfInBounds_toArray, List.set_cons_zero, List.set_cons_succ]
                      clear hK
                      refine wpAnyH_ready (rs := [6]) (by kernel_rfl) (by simp) ?_
                      refine AllReadyH.cons (o := _) rfl (fun K hK => ?_) AllReadyH.nil
                      · have z257 := z255.set5 (chaind E d1)
                        refine to_store (.tmp 5) (.tmp 24) rfl rfl rfl g5 E (chaind E d1) rfl rfl z255.five HE0.out (tagd_len _ _) (hK.out _ _ trivial fun _ => ?_)
                        revert z257; generalize World.setRow v256 _ _ = v258; intro z257
                        clear hK
                        refine wpAnyH_ready (rs := [7]) (by kernel_rfl) (by simp) ?_
                        refine AllReadyH.cons (o := _) rfl (fun K hK => ?_) AllReadyH.nil
                        · have z259 := z257.set6 (chaind E d1)
                          refine to_store (.tmp 6) (.tmp 27) rfl rfl rfl g6 E (chaind E d1) rfl rfl z257.six HE0.out (tagd_len _ _) (hK.out _ _ trivial fun _ => ?_)
                          revert z259; generalize World.setRow v258 _ _ = v260; intro z259
                          clear hK
                          refine wpAnyH_done (by kernel_rfl) (NoPanic.normal ?_) _
                          have HE := Lib.hid z259
                          go_wp2_with fail
                          go_meet
                          exact HE.out
                · refine to_load 25 (.tmp 6) rfl rfl rfl g6 0 E rfl ((z0.six).range) HE0.out (hK.out _ _ trivial fun _ => ?_)
                  simp only [Act.put, List.setIfInBounds_toArray, List.set_cons_zero, List.set_cons_succ]
                  clear hK
                  refine wpAnyH_ready (rs := [2]) (by kernel_rfl) (by simp) ?_
                  refine AllReadyH.cons (o := _) rfl (fun K hK => ?_) AllReadyH.nil
                  · refine to_call 25 24 _ _ #[.agg (U E).toArray, .agg (U d1).toArray] _ rfl rfl rfl rfl enters_Chain (chain_all E d1 v0 HE0.out HD1.out (HKR.out _ z0.st.below)) (fun e v262 h5 => ⟨_, h5.1, ?_⟩)
                    have z261 := z0.step h5.2
                    refine hK.out _ _ trivial fun _ => ?_
                    clear h5
                    simp only [Act.put, List.setIfInBounds_toArray, List.set_cons_zero, List.set_cons_succ]
                    clear hK
                    refine wpAnyH_ready (rs := [5]) (by kernel_rfl) (by simp) ?_
                    refine AllReadyH.cons (o := _) rfl (fun K hK => ?_) AllReadyH.nil
                    · refine to_call 26 27 _ _ #[.agg (U E).toArray, .agg (U d1).toArray] _ rfl rfl rfl rfl enters_rChain (rchain_all E d1 v262 HE0.out HD1.out) (fun e v264 h5 => ⟨_, h5.1, ?_⟩)
                      have z263 := z261.step h5.2
                      refine hK.out _ _ trivial fun _ => ?_
                      clear h5
                      simp only [Act.put, List.setIfInBounds_toArray, List.set_cons_zero, List.set_cons_succ]
                      clear hK
                      refine wpAnyH_ready (rs := [6]) (by kernel_rfl) (by simp) ?_
                      refine AllReadyH.cons (o := _) rfl (fun K hK => ?_) AllReadyH.nil
                      · have z265 := z263.set5 (chaind E d1)
                        refine to_store (.tmp 5) (.tmp 24) rfl rfl rfl g5 E (chaind E d1) rfl rfl z263.five HE0.out (tagd_len _ _) (hK.out _ _ trivial fun _ => ?_)
                        revert z265; generalize World.setRow v264 _ _ = v266; intro z265
                        clear hK
                        refine wpAnyH_ready (rs := [7]) (by kernel_rfl) (by simp) ?_
                        refine AllReadyH.cons (o := _) rfl (fun K hK => ?_) AllReadyH.nil
                        · have z267 := z265.set6 (chaind E d1)
                          refine to_store (.tmp 6) (.tmp 27) rfl rfl rfl g6 E (chaind E d1) rfl rfl z265.six HE0.out (tagd_len _ _) (hK.out _ _ trivial fun _ => ?_)
                          revert z267; generalize World.setRow v266 _ _ = v268; intro z267
                          clear hK
                          refine wpAnyH_done (by kernel_rfl) (NoPanic.normal ?_) _
                          have HE := Lib.hid z267
                          go_wp2_with fail
                          go_meet
                          exact HE.out
              · refine to_load 25 (.tmp 6) rfl rfl rfl g6 0 E rfl ((z0.six).range) HE0.out (hK.out _ _ trivial fun _ => ?_)
                simp only [Act.put, List.setIfInBounds_toArray, List.set_cons_zero, List.set_cons_succ]
                clear hK
                refine wpAnyH_ready (rs := [1]) (by kernel_rfl) (by simp) ?_
                refine AllReadyH.cons (o := _) rfl (fun K hK => ?_) AllReadyH.nil
                · refine to_load 23 (.tmp 8) rfl rfl rfl wr.heap.size 0 d1 rfl ((z0.eight).range) HD1.out (hK.out _ _ trivial fun _ => ?_)
                  simp only [Act.put, List.setIfInBounds_toArray, List.set_cons_zero, List.set_cons_succ]
                  clear hK
                  refine wpAnyH_ready (rs := [2]) (by kernel_rfl) (by simp) ?_
                  refine AllReadyH.cons (o := _) rfl (fun K hK => ?_) AllReadyH.nil
                  · refine to_call 25 24 _ _ #[.agg (U E).toArray, .agg (U d1).toArray] _ rfl rfl rfl rfl enters_Chain (chain_all E d1 v0 HE0.out HD1.out (HKR.out _ z0.st.below)) (fun e v270 h5 => ⟨_, h5.1, ?_⟩)
                    have z269 := z0.step h5.2
                    refine hK.out _ _ trivial fun _ => ?_
                    clear h5
                    simp only [Act.put, List.setIfInBounds_toArray, List.set_cons_zero, List.set_cons_succ]
                    clear hK
                    refine wpAnyH_ready (rs := [5]) (by kernel_rfl) (by simp) ?_
                    refine AllReadyH.cons (o := _) rfl (fun K hK => ?_) AllReadyH.nil
                    · refine to_call 26 27 _ _ #[.agg (U E).toArray, .agg (U d1).toArray] _ rfl rfl rfl rfl enters_rChain (rchain_all E d1 v270 HE0.out HD1.out) (fun e v272 h5 => ⟨_, h5.1, ?_⟩)
                      have z271 := z269.step h5.2
                      refine hK.out _ _ trivial fun _ => ?_
                      clear h5
                      simp only [Act.put, List.setIfInBounds_toArray, List.set_cons_zero, List.set_cons_succ]
                      clear hK
                      refine wpAnyH_ready (rs := [6]) (by kernel_rfl) (by simp) ?_
                      refine AllReadyH.cons (o := _) rfl (fun K hK => ?_) AllReadyH.nil
                      · have z273 := z271.set5 (chaind E d1)
                        refine to_store (.tmp 5) (.tmp 24) rfl rfl rfl g5 E (chaind E d1) rfl rfl z271.five HE0.out (tagd_len _ _) (hK.out _ _ trivial fun _ => ?_)
                        revert z273; generalize World.setRow v272 _ _ = v274; intro z273
                        clear hK
                        refine wpAnyH_ready (rs := [7]) (by kernel_rfl) (by simp) ?_
                        refine AllReadyH.cons (o := _) rfl (fun K hK => ?_) AllReadyH.nil
                        · have z275 := z273.set6 (chaind E d1)
                          refine to_store (.tmp 6) (.tmp 27) rfl rfl rfl g6 E (chaind E d1) rfl rfl z273.six HE0.out (tagd_len _ _) (hK.out _ _ trivial fun _ => ?_)
                          revert z275; generalize World.setRow v274 _ _ = v276; intro z275
                          clear hK
                          refine wpAnyH_done (by kernel_rfl) (NoPanic.normal ?_) _
                          have HE := Lib.hid z275
                          go_wp2_with fail
                          go_meet
                          exact HE.out
            · refine to_load 23 (.tmp 8) rfl rfl rfl wr.heap.size 0 d1 rfl ((z0.eight).range) HD1.out (hK.out _ _ trivial fun _ => ?_)
              simp only [Act.put, List.setIfInBounds_toArray, List.set_cons_zero, List.set_cons_succ]
              clear hK
              refine wpAnyH_ready (rs := [0, 3]) (by kernel_rfl) (by simp) ?_
              refine AllReadyH.cons (o := _) rfl (fun K hK => ?_) (AllReadyH.cons (o := _) rfl (fun K hK => ?_) AllReadyH.nil)
              · refine to_load 22 (.tmp 5) rfl rfl rfl g5 0 E rfl ((z0.five).range) HE0.out (hK.out _ _ trivial fun _ => ?_)
                simp only [Act.put, List.setIfInBounds_toArray, List.set_cons_zero, List.set_cons_succ]
                clear hK
                refine wpAnyH_ready (rs := [2, 3]) (by kernel_rfl) (by simp) ?_
                refine AllReadyH.cons (o := _) rfl (fun K hK => ?_) (AllReadyH.cons (o := _) rfl (fun K hK => ?_) AllReadyH.nil)
                · refine to_call 25 24 _ _ #[.agg (U E).toArray, .agg (U d1).toArray] _ rfl rfl rfl rfl enters_Chain (chain_all E d1 v0 HE0.out HD1.out (HKR.out _ z0.st.below)) (fun e v278 h5 => ⟨_, h5.1, ?_⟩)
                  have z277 := z0.step h5.2
                  refine hK.out _ _ trivial fun _ => ?_
                  clear h5
                  simp only [Act.put, List.setIfInBounds_toArray, List.set_cons_zero, List.set_cons_succ]
                  clear hK
                  refine wpAnyH_ready (rs := [3]) (by kernel_rfl) (by simp) ?_
                  refine AllReadyH.cons (o := _) rfl (fun K hK => ?_) AllReadyH.nil
                  · refine to_load 25 (.tmp 6) rfl rfl rfl g6 0 E rfl ((z277.six).range) HE0.out (hK.out _ _ trivial fun _ => ?_)
                    simp only [Act.put, List.setIfInBounds_toArray, List.set_cons_zero, List.set_cons_succ]
                    clear hK
                    refine wpAnyH_ready (rs := [5]) (by kernel_rfl) (by simp) ?_
                    refine AllReadyH.cons (o := _) rfl (fun K hK => ?_) AllReadyH.nil
                    · refine to_call 26 27 _ _ #[.agg (U E).toArray, .agg (U d1).toArray] _ rfl rfl rfl rfl enters_rChain (rchain_all E d1 v278 HE0.out HD1.out) (fun e v280 h5 => ⟨_, h5.1, ?_⟩)
                      have z279 := z277.step h5.2
                      refine hK.out _ _ trivial fun _ => ?_
                      clear h5
                      simp only [Act.put, List.setIfInBounds_toArray, List.set_cons_zero, List.set_cons_succ]
                      clear hK
                      refine wpAnyH_ready (rs := [6]) (by kernel_rfl) (by simp) ?_
                      refine AllReadyH.cons (o := _) rfl (fun K hK => ?_) AllReadyH.nil
                      · have z281 := z279.set5 (chaind E d1)
                        refine to_store (.tmp 5) (.tmp 24) rfl rfl rfl g5 E (chaind E d1) rfl rfl z279.five HE0.out (tagd_len _ _) (hK.out _ _ trivial fun _ => ?_)
                        revert z281; generalize World.setRow v280 _ _ = v282; intro z281
                        clear hK
                        refine wpAnyH_ready (rs := [7]) (by kernel_rfl) (by simp) ?_
                        refine AllReadyH.cons (o := _) rfl (fun K hK => ?_) AllReadyH.nil
                        · have z283 := z281.set6 (chaind E d1)
                          refine to_store (.tmp 6) (.tmp 27) rfl rfl rfl g6 E (chaind E d1) rfl rfl z281.six HE0.out (tagd_len _ _) (hK.out _ _ trivial fun _ => ?_)
                          revert z283; generalize World.setRow v282 _ _ = v284; intro z283
                          clear hK
                          refine wpAnyH_done (by kernel_rfl) (NoPanic.normal ?_) _
                          have HE := Lib.hid z283
                          go_wp2_with fail
                          go_meet
                          exact HE.out
                · refine to_load 25 (.tmp 6) rfl rfl rfl g6 0 E rfl ((z0.six).range) HE0.out (hK.out _ _ trivial fun _ => ?_)
                  simp only [Act.put, List.setIfInBounds_toArray, List.set_cons_zero, List.set_cons_succ]
                  clear hK
                  refine wpAnyH_ready (rs := [2]) (by kernel_rfl) (by simp) ?_
                  refine AllReadyH.cons (o := _) rfl (fun K hK => ?_) AllReadyH.nil
                  · refine to_call 25 24 _ _ #[.agg (U E).toArray, .agg (U d1).toArray] _ rfl rfl rfl rfl enters_Chain (chain_all E d1 v0 HE0.out HD1.out (HKR.out _ z0.st.below)) (fun e v286 h5 => ⟨_, h5.1, ?_⟩)
                    have z285 := z0.step h5.2
                    refine hK.out _ _ trivial fun _ => ?_
                    clear h5
                    simp only [Act.put, List.setIfInBounds_toArray, List.set_cons_zero, List.set_cons_succ]
                    clear hK
                    refine wpAnyH_ready (rs := [5]) (by kernel_rfl) (by simp) ?_
                    refine AllReadyH.cons (o := _) rfl (fun K hK => ?_) AllReadyH.nil
                    · refine to_call 26 27 _ _ #[.agg (U E).toArray, .agg (U d1).toArray] _ rfl rfl rfl rfl enters_rChain (rchain_all E d1 v286 HE0.out HD1.out) (fun e v288 h5 => ⟨_, h5.1, ?_⟩)
                      have z287 := z285.step h5.2
                      refine hK.out _ _ trivial fun _ => ?_
                      clear h5
                      simp only [Act.put, List.setIfInBounds_toArray, List.set_cons_zero, List.set_cons_succ]
                      clear hK
                      refine wpAnyH_ready (rs := [6]) (by kernel_rfl) (by simp) ?_
                      refine AllReadyH.cons (o := _) rfl (fun K hK => ?_) AllReadyH.nil
                      · have z289 := z287.set5 (chaind E d1)
                        refine to_store (.tmp 5) (.tmp 24) rfl rfl rfl g5 E (chaind E d1) rfl rfl z287.five HE0.out (tagd_len _ _) (hK.out _ _ trivial fun _ => ?_)
                        revert z289; generalize World.setRow v288 _ _ = v290; intro z289
                        clear hK
                        refine wpAnyH_ready (rs := [7]) (by kernel_rfl) (by simp) ?_
                        refine AllReadyH.cons (o := _) rfl (fun K hK => ?_) AllReadyH.nil
                        · have z291 := z289.set6 (chaind E d1)
                          refine to_store (.tmp 6) (.tmp 27) rfl rfl rfl g6 E (chaind E d1) rfl rfl z289.six HE0.out (tagd_len _ _) (hK.out _ _ trivial fun _ => ?_)
                          revert z291; generalize World.setRow v290 _ _ = v292; intro z291
                          clear hK
                          refine wpAnyH_done (by kernel_rfl) (NoPanic.normal ?_) _
                          have HE := Lib.hid z291
                          go_wp2_with fail
                          go_meet
                          exact HE.out
              · refine to_load 25 (.tmp 6) rfl rfl rfl g6 0 E rfl ((z0.six).range) HE0.out (hK.out _ _ trivial fun _ => ?_)
                simp only [Act.put, List.setIfInBounds_toArray, List.set_cons_zero, List.set_cons_succ]
                clear hK
                refine wpAnyH_ready (rs := [0]) (by kernel_rfl) (by simp) ?_
                refine AllReadyH.cons (o := _) rfl (fun K hK => ?_) AllReadyH.nil
                · refine to_load 22 (.tmp 5) rfl rfl rfl g5 0 E rfl ((z0.five).range) HE0.out (hK.out _ _ trivial fun _ => ?_)
                  simp only [Act.put, List.setIfInBounds_toArray, List.set_cons_zero, List.set_cons_succ]
                  clear hK
                  refine wpAnyH_ready (rs := [2]) (by kernel_rfl) (by simp) ?_
                  refine AllReadyH.cons (o := _) rfl (fun K hK => ?_) AllReadyH.nil
                  · refine to_call 25 24 _ _ #[.agg (U E).toArray, .agg (U d1).toArray] _ rfl rfl rfl rfl enters_Chain (chain_all E d1 v0 HE0.out HD1.out (HKR.out _ z0.st.below)) (fun e v294 h5 => ⟨_, h5.1, ?_⟩)
                    have z293 := z0.step h5.2
                    refine hK.out _ _ trivial fun _ => ?_
                    clear h5
                    simp only [Act.put, List.setIfInBounds_toArray, List.set_cons_zero, List.set_cons_succ]
                    clear hK
                    refine wpAnyH_ready (rs := [5]) (by kernel_rfl) (by simp) ?_
                    refine AllReadyH.cons (o := _) rfl (fun K hK => ?_) AllReadyH.nil
                    · refine to_call 26 27 _ _ #[.agg (U E).toArray, .agg (U d1).toArray] _ rfl rfl rfl rfl enters_rChain (rchain_all E d1 v294 HE0.out HD1.out) (fun e v296 h5 => ⟨_, h5.1, ?_⟩)
                      have z295 := z293.step h5.2
                      refine hK.out _ _ trivial fun _ => ?_
                      clear h5
                      simp only [Act.put, List.setIfInBounds_toArray, List.set_cons_zero, List.set_cons_succ]
                      clear hK
                      refine wpAnyH_ready (rs := [6]) (by kernel_rfl) (by simp) ?_
                      refine AllReadyH.cons (o := _) rfl (fun K hK => ?_) AllReadyH.nil
                      · have z297 := z295.set5 (chaind E d1)
                        refine to_store (.tmp 5) (.tmp 24) rfl rfl rfl g5 E (chaind E d1) rfl rfl z295.five HE0.out (tagd_len _ _) (hK.out _ _ trivial fun _ => ?_)
                        revert z297; generalize World.setRow v296 _ _ = v298; intro z297
                        clear hK
                        refine wpAnyH_ready (rs := [7]) (by kernel_rfl) (by simp) ?_
                        refine AllReadyH.cons (o := _) rfl (fun K hK => ?_) AllReadyH.nil
                        · have z299 := z297.set6 (chaind E d1)
                          refine to_store (.tmp 6) (.tmp 27) rfl rfl rfl g6 E (chaind E d1) rfl rfl z297.six HE0.out (tagd_len _ _) (hK.out _ _ trivial fun _ => ?_)
                          revert z299; generalize World.setRow v298 _ _ = v300; intro z299
                          clear hK
                          refine wpAnyH_done (by kernel_rfl) (NoPanic.normal ?_) _
                          have HE := Lib.hid z299
                          go_wp2_with fail
                          go_meet
                          exact HE.out
            · refine to_load 25 (.tmp 6) rfl rfl rfl g6 0 E rfl ((z0.six).range) HE0.out (hK.out _ _ trivial fun _ => ?_)
              simp only [Act.put, List.setIfInBounds_toArray, List.set_cons_zero, List.set_cons_succ]
              clear hK
              refine wpAnyH_ready (rs := [0, 1]) (by kernel_rfl) (by simp) ?_
              refine AllReadyH.cons (o := _) rfl (fun K hK => ?_) (AllReadyH.cons (o := _) rfl (fun K hK => ?_) AllReadyH.nil)
              · refine to_load 22 (.tmp 5) rfl rfl rfl g5 0 E rfl ((z0.five).range) HE0.out (hK.out _ _ trivial fun _ => ?_)
                simp only [Act.put, List.setIfInBounds_toArray, List.set_cons_zero, List.set_cons_succ]
                clear hK
                refine wpAnyH_ready (rs := [1]) (by kernel_rfl) (by simp) ?_
                refine AllReadyH.cons (o := _) rfl (fun K hK => ?_) AllReadyH.nil
                · refine to_load 23 (.tmp 8) rfl rfl rfl wr.heap.size 0 d1 rfl ((z0.eight).range) HD1.out (hK.out _ _ trivial fun _ => ?_)
                  simp only [Act.put, List.setIfInBounds_toArray, List.set_cons_zero, List.set_cons_succ]
                  clear hK
                  refine wpAnyH_ready (rs := [2]) (by kernel_rfl) (by simp) ?_
                  refine AllReadyH.cons (o := _) rfl (fun K hK => ?_) AllReadyH.nil
                  · refine to_call 25 24 _ _ #[.agg (U E).toArray, .agg (U d1).toArray] _ rfl rfl rfl rfl enters_Chain (chain_all E d1 v0 HE0.out HD1.out (HKR.out _ z0.st.below)) (fun e v302 h5 => ⟨_, h5.1, ?_⟩)
                    have z301 := z0.step h5.2
                    refine hK.out _ _ trivial fun _ => ?_
                    clear h5
                    simp only [Act.put, List.setIfInBounds_toArray, List.set_cons_zero, List.set_cons_succ]
                    clear hK
                    refine wpAnyH_ready (rs := [5]) (by kernel_rfl) (by simp) ?_
                    refine AllReadyH.cons (o := _) rfl (fun K hK => ?_) AllReadyH.nil
                    · refine to_call 26 27 _ _ #[.agg (U E).toArray, .agg (U d1).toArray] _ rfl rfl rfl rfl enters_rChain (rchain_all E d1 v302 HE0.out HD1.out) (fun e v304 h5 => ⟨_, h5.1, ?_⟩)
                      have z303 := z301.step h5.2
                      refine hK.out _ _ trivial fun _ => ?_
                      clear h5
                      simp only [Act.put, List.setIfInBounds_toArray, List.set_cons_zero, List.set_cons_succ]
                      clear hK
                      refine wpAnyH_ready (rs := [6]) (by kernel_rfl) (by simp) ?_
                      refine AllReadyH.cons (o := _) rfl (fun K hK => ?_) AllReadyH.nil
                      · have z305 := z303.set5 (chaind E d1)
                        refine to_store (.tmp 5) (.tmp 24) rfl rfl rfl g5 E (chaind E d1) rfl rfl z303.five HE0.out (tagd_len _ _) (hK.out _ _ trivial fun _ => ?_)
                        revert z305; generalize World.setRow v304 _ _ = v306; intro z305
                        clear hK
                        refine wpAnyH_ready (rs := [7]) (by kernel_rfl) (by simp) ?_
                        refine AllReadyH.cons (o := _) rfl (fun K hK => ?_) AllReadyH.nil
                        · have z307 := z305.set6 (chaind E d1)
                          refine to_store (.tmp 6) (.tmp 27) rfl rfl rfl g6 E (chaind E d1) rfl rfl z305.six HE0.out (tagd_len _ _) (hK.out _ _ trivial fun _ => ?_)
                          revert z307; generalize World.setRow v306 _ _ = v308; intro z307
                          clear hK
                          refine wpAnyH_done (by kernel_rfl) (NoPanic.normal ?_) _
                          have HE := Lib.hid z307
                          go_wp2_with fail
                          go_meet
                          exact HE.out
              · refine to_load 23 (.tmp 8) rfl rfl rfl wr.heap.size 0 d1 rfl ((z0.eight).range) HD1.out (hK.out _ _ trivial fun _ => ?_)
                simp only [Act.put, List.setIfInBounds_toArray, List.set_cons_zero, List.set_cons_succ]
                clear hK
                refine wpAnyH_ready (rs := [0]) (by kernel_rfl) (by simp) ?_
                refine AllReadyH.cons (o := _) rfl (fun K hK => ?_) AllReadyH.nil
                · refine to_load 22 (.tmp 5) rfl rfl rfl g5 0 E rfl ((z0.five).range) HE0.out (hK.out _ _ trivial fun _ => ?_)
                  simp only [Act.put, List.setIfInBounds_toArray, List.set_cons_zero, List.set_cons_succ]
                  clear hK
                  refine wpAnyH_ready (rs := [2]) (by kernel_rfl) (by simp) ?_
                  refine AllReadyH.cons (o := _) rfl (fun K hK => ?_) AllReadyH.nil
                  · refine to_call 25 24 _ _ #[.agg (U E).toArray, .agg (U d1).toArray] _ rfl rfl rfl rfl enters_Chain (chain_all E d1 v0 HE0.out HD1.out (HKR.out _ z0.st.below)) (fun e v310 h5 => ⟨_, h5.1, ?_⟩)
                    have z309 := z0.step h5.2
                    refine hK.out _ _ trivial fun _ => ?_
                    clear h5
                    simp only [Act.put, List.setIfInBounds_toArray, List.set_cons_zero, List.set_cons_succ]
                    clear hK
                    refine wpAnyH_ready (rs := [5]) (by kernel_rfl) (by simp) ?_
                    refine AllReadyH.cons (o := _) rfl (fun K hK => ?_) AllReadyH.nil
                    · refine to_call 26 27 _ _ #[.agg (U E).toArray, .agg (U d1).toArray] _ rfl rfl rfl rfl enters_rChain (rchain_all E d1 v310 HE0.out HD1.out) (fun e v312 h5 => ⟨_, h5.1, ?_⟩)
                      have z311 := z309.step h5.2
                      refine hK.out _ _ trivial fun _ => ?_
                      clear h5
                      simp only [Act.put, List.setIfInBounds_toArray, List.set_cons_zero, List.set_cons_succ]
                      clear hK
                      refine wpAnyH_ready (rs := [6]) (by kernel_rfl) (by simp) ?_
                      refine AllReadyH.cons (o := _) rfl (fun K hK => ?_) AllReadyH.nil
                      · have z313 := z311.set5 (chaind E d1)
                        refine to_store (.tmp 5) (.tmp 24) rfl rfl rfl g5 E (chaind E d1) rfl rfl z311.five HE0.out (tagd_len _ _) (hK.out _ _ trivial fun _ => ?_)
                        revert z313; generalize World.setRow v312 _ _ = v314; intro z313
                        clear hK
                        refine wpAnyH_ready (rs := [7]) (by kernel_rfl) (by simp) ?_
                        refine AllReadyH.cons (o := _) rfl (fun K hK => ?_) AllReadyH.nil
                        · have z315 := z313.set6 (chaind E d1)
                          refine to_store (.tmp 6) (.tmp 27) rfl rfl rfl g6 E (chaind E d1) rfl rfl z313.six HE0.out (tagd_len _ _) (hK.out _ _ trivial fun _ => ?_)
                          revert z315; generalize World.setRow v314 _ _ = v316; intro z315
                          clear hK
                          refine wpAnyH_done (by kernel_rfl) (NoPanic.normal ?_) _
                          have HE := Lib.hid z315
                          go_wp2_with fail
                          go_meet
                          exact HE.out
        case rest =>
          have H8 := Lib.hid hcut
          clear hcut H7
          obtain ⟨E1, hE1⟩ : ∃ E1, E1 = chaind E d1 := ⟨_, rfl⟩
          have HEQ : Value.agg (U (tagd chainT.data.toList (([] ++ E) ++ d1))).toArray = Value.agg (U E1).toArray := by rw [hE1]; rfl
          have HE1 := Lib.hid (show E1.length = 32 by rw [hE1]; exact tagd_len _ _)
          rw [← hE1] at H8
          clear hE1
          go_wp2_with fail
          refine wp_region_noPanic ?_
          have h0 : Below wc.heap.size wc wc.drew := (Below.refl _ _).drew
          refine wp_region_held_drew (S := fun ww => Below wc.heap.size wc ww) (by kernel_rfl) h0 (fun _ => ?_)
          revert h0; generalize World.drew wc = v0; intro h0
          refine tk_load 0 28 (.tmp 5) g5 0 E1 rfl (by kernel_rfl) (by kernel_rfl) (by kernel_rfl) (fun _ _ _ _ h => h) rfl rfl rfl rfl (fun w h => (H8.out.step h).five.range) HE1.out h0 ?_
          simp only [Act.put, List.setIfInBounds_toArray, List.set_cons_zero, List.set_cons_succ]
          refine tk_load 1 29 (.tmp 6) g6 0 E1 rfl (by kernel_rfl) (by kernel_rfl) (by kernel_rfl) (fun _ _ _ _ h => h) rfl rfl rfl rfl (fun w h => (H8.out.step h).six.range) HE1.out h0 ?_
          simp only [Act.put, List.setIfInBounds_toArray, List.set_cons_zero, List.set_cons_succ]
          refine tk_val 2 30 (.bool false) rfl (by kernel_rfl) (by kernel_rfl) (by kernel_rfl) (fun _ _ _ _ h => h) rfl rfl (fun w _ => ev_neq (.tmp 28) (.tmp 29) E1 HE1.out rfl rfl rfl) h0 ?_
          simp only [Act.put, List.setIfInBounds_toArray, List.set_cons_zero, List.set_cons_succ]
          refine tk_move 3 31 (.tmp 30) (.bool false) rfl (by kernel_rfl) (by kernel_rfl) (by kernel_rfl) (fun _ _ _ _ h => h) rfl rfl rfl rfl h0 ?_
          simp only [Act.put, List.setIfInBounds_toArray, List.set_cons_zero, List.set_cons_succ]
          refine tkw_load 4 32 (.tmp 5) g5 0 E1 rfl (by kernel_rfl) (by kernel_rfl) (by kernel_rfl) (fun _ _ _ _ h => h) rfl rfl rfl rfl (fun w h => (H8.out.step h).five.range) HE1.out h0 ?_
          simp only [Act.put, List.setIfInBounds_toArray, List.set_cons_zero, List.set_cons_succ]
          refine tkw_val 6 34 (.slice (some ⟨W6.heap.size, 0, none⟩) 32 32) rfl (by kernel_rfl) (by kernel_rfl) (by kernel_rfl) (fun _ _ _ _ h => h) rfl rfl (fun w _ => ev_arr (.tmp 9) W6.heap.size rfl rfl) h0 ?_
          simp only [Act.put, List.setIfInBounds_toArray, List.set_cons_zero, List.set_cons_succ]
          refine tkw_val 8 36 (.slice (some ⟨wr.heap.size, 0, none⟩) 32 32) rfl (by kernel_rfl) (by kernel_rfl) (by kernel_rfl) (fun _ _ _ _ h => h) rfl rfl (fun w _ => ev_arr (.tmp 8) wr.heap.size rfl rfl) h0 ?_
          simp only [Act.put, List.setIfInBounds_toArray, List.set_cons_zero, List.set_cons_succ]
          refine lone 5 (by kernel_rfl) rfl (fun K5 hK5 => ?_)
          rw [if_pos (show Region.wanted _ _ = true from rfl)]
          refine wp_bs0b 33 rfl rfl (hK5 _ _ (h0.alloc h0.size _) ?_)
          simp only [Act.put, List.setIfInBounds_toArray, List.set_cons_zero, List.set_cons_succ]
          clear hK5
          have ho5 := (own_row v0 #[] 0 rfl (by simp only [maxLen]; omega)).base (b' := wc.heap.size) h0.size
          have h5 := h0.alloc h0.size (.cells #[] 5)
          generalize hv5 : v0.heap.size = s5
          rw [hv5] at ho5; clear hv5
          revert ho5 h5; generalize World.alloc v0 _ = v5; intro h5 ho5
          refine lone 7 (by kernel_rfl) rfl (fun K5 hK5 => ?_)
          rw [if_pos (show Region.wanted _ _ = true from rfl)]
          refine wp_app_own (.tmp 33) (.tmp 34) rfl wc.heap.size (.slice (some ⟨s5, 0, none⟩) 0 0) _ _ _ [] E rfl (by rw [HE0.out]; rfl) ho5 ((H8.out.step h5).nine.b32 HE0.out) (by rw [HE0.out]; simp) h5.size (fun w6' v6 ho6 hg6 => ?_)
          have h6 := below_own h5 hg6 ho5 (Nat.le_refl _) h5.size
          obtain ⟨A6, c6, rfl⟩ := ho6.slice
          refine hK5 _ _ h6 ?_
          simp only [Act.put, List.setIfInBounds_toArray]
          clear hK5 hg6 ho5
          refine lone 9 (by kernel_rfl) rfl (fun K5 hK5 => ?_)
          rw [if_pos (show Region.wanted _ _ = true from rfl)]
          refine wp_app_own (.tmp 35) (.tmp 36) rfl wc.heap.size _ _ _ _ ([] ++ E) d1 rfl (by rw [HD1.out]; rfl) ho6 ((H8.out.step h6).eight.b32 HD1.out) (by simp [HE0.out, HD1.out]) h6.size (fun w7' v7 ho7 hg7 => ?_)
          have h7 := below_own h6 hg7 ho6 (Nat.le_refl _) h6.size
          obtain ⟨A7, c7, rfl, hy7⟩ := ho7.byt
          refine hK5 _ _ h7 ?_
          simp only [Act.put]
          clear hK5 hg7 ho6
          refine lone 10 (by kernel_rfl) rfl (fun K5 hK5 => ?_)
          rw [if_pos (show Region.wanted _ _ = true from rfl)]
          have hy7' := hy7.keep (w' := v7) (S' := (· < v7.heap.size)) fun i hi => ⟨hi.2, rfl⟩
          have hlen7 : (([] ++ E) ++ d1).length ≤ 1000000 := by simp [HE0.out, HD1.out]
          have CT := Lib.hid (tagged_all chainT (([] ++ E) ++ d1) A7 c7 v7 (by decide) hlen7 hy7' (HKR.out _ (H8.out.step h7).st.below))
          clear hy7' hlen7
          obtain ⟨TT, hTT⟩ : ∃ TT, TT = tagd chainT.data.toList (([] ++ E) ++ d1) := ⟨_, rfl⟩
          rw [← hTT] at CT HEQ
          clear hTT
          obtain ⟨n7, hn7⟩ : ∃ n7, n7 = (([] ++ E) ++ d1).length := ⟨_, rfl⟩
          rw [← hn7] at CT ⊢
          clear hn7
          refine wp_call 14 38 _ _ #[.string chainT, .slice A7 n7 c7] _ rfl rfl rfl enters_Tagged CT.out (fun e w8 h8 => ⟨_, h8.1, ?_⟩)
          have h9 := h7.trans (h8.2.mono h7.size)
          refine hK5 _ _ h9 ?_
          simp only [Act.put]
          clear hK5 ho7 hy7
          refine tkw_val 11 39 (.bool false) rfl (by kernel_rfl) (by kernel_rfl) (by kernel_rfl) (fun _ _ _ _ h => h) rfl rfl (fun w _ => ev_neq (.tmp 32) (.tmp 38) E1 HE1.out rfl rfl HEQ) h9 ?_
          simp only [Act.put]
          refine tk_val 12 40 (.bool false) rfl (by kernel_rfl) (by kernel_rfl) (by kernel_rfl) (fun _ _ _ _ h => h) rfl rfl (fun w _ => ev_pick (.tmp 31) (.const (.bool true)) (.tmp 39) rfl rfl rfl) h9 ?_
          simp only [Act.put]
          refine wpAnyH_done (by kernel_rfl) (NoPanic.normal ?_) _
          have H9 := Lib.hid (H8.out.step h9)
          clear h0 h5 h6 h7 h8 h9
          go_wp2_with fail
          go_roundw
          case rel => exact ⟨i + 1, E1, by omega, by go_num, HE1.out, H9.out.core⟩
          case measure => simp [intOf]; omega
      · have hfin := HBW.out _ HR.out.st.below
        go_wp2_with fail
        go_ret
        exact ⟨rfl, hfin⟩
end Go.Proofs.YtcendlecgnfblaaDoor
