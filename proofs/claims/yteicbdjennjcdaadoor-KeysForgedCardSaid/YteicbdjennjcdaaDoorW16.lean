/- Several texts joined: parts MG MH. -/
import Derived.Test.YteicbdjennjcdaaDoorW14
namespace Go.Proofs.YteicbdjennjcdaaDoor
section
set_option maxRecDepth 100000
open Go.RowKit

theorem cond1_all (b : Nat) (n : Int) (w : World) (h : w.cell? ⟨b, 0, none⟩ = some (.int .i64 n)) :
    Calls Tryd.prog 78 #[.pointer (some ⟨b, 0, none⟩)] w fun e w' => e = .returned (.bool (decide (1 ≤ n ∧ n ≤ 256))) ∧ w' = w := by
  obtain ⟨D, hD⟩ : ∃ D, decide (1 ≤ n ∧ n ≤ 256) = D := ⟨_, rfl⟩
  rw [hD]
  have HD := Lib.hid hD
  clear hD
  go_enter Tryd.func78, Tryd.ntmps78
  go_wp2_with fail
  refine (isTree_all n w).mono ?_
  rintro e w2 ⟨rfl, rfl⟩
  rw [HD.out]
  go_wp2_with fail
  go_ret
  exact ⟨rfl, rfl⟩
theorem cond2_all (bl bn : Nat) (s : Lf) (n : Int) (w : World) (hl : BxL w bl s) (h : w.cell? ⟨bn, 0, none⟩ = some (.int .i64 n)) :
    Calls Tryd.prog 79 #[.pointer (some ⟨bl, 0, none⟩), .pointer (some ⟨bn, 0, none⟩)] w fun e w' => e = .returned (.bool (decide (0 ≤ s.i ∧ s.i < n))) ∧ w' = w := by
  have h0 := hl.c0
  clear hl
  obtain ⟨D, hD⟩ : ∃ D, decide (0 ≤ s.i ∧ s.i < n) = D := ⟨_, rfl⟩
  rw [hD]
  have HD := Lib.hid hD
  clear hD
  go_enter Tryd.func79, Tryd.ntmps79
  go_wp2_with fail
  refine (isLeaf_all s.i n w).mono ?_
  rintro e w2 ⟨rfl, rfl⟩
  rw [HD.out]
  go_wp2_with fail
  go_ret
  exact ⟨rfl, rfl⟩

/-- what Recover makes of the elements -/
def pubR (m : List UInt8) (C : List (List UInt8)) : List UInt8 := if C.length = 19 then recF m C else z32
theorem pubR_len (m : List UInt8) (C : List (List UInt8)) : (pubR m C).length = 32 := by
  unfold pubR
  split
  · exact recF_len _ _
  · rfl
def pubE (C : List (List UInt8)) : Int := if C.length = 19 then 0 else 50
theorem Recover_any (m : List UInt8) (L : List (List UInt8)) (A : Option Addr) (cap : Nat) (w : World) (hm : m.length = 32) (hl : DL w (· < w.heap.size) L A cap) (hk : KR w Kt) :
    Calls Tryd.prog 65 #[.agg (U m).toArray, .slice A L.length cap] w fun e w' => e = .returned (.tuple #[.agg (U (pubR m L)).toArray, .int .i64 (pubE L)]) ∧ Below w.heap.size w w' := by
  unfold pubR pubE
  by_cases h : L.length = 19
  · rw [if_pos h, if_pos h]
    have := Recover_yes m L A cap w hm h hl hk
    rwa [← h] at this
  · rw [if_neg h, if_neg h]
    exact Recover_no m L.length cap A w h (Nat.le_trans hl.1 hl.2.1)

set_option maxHeartbeats 1600000 in
theorem cond3_all (bm bl bp : Nat) (m : List UInt8) (s : Lf) (p0 : List UInt8) (w : World) (hm : RowB w bm 23 m) (hm32 : m.length = 32) (hl : BxL w bl s) (hp : RowB w bp 23 p0) (hp32 : p0.length = 32) (hC : DL w (· < w.heap.size) s.C s.cA s.cc) (hk : KR w Kt) :
    Calls Tryd.prog 80 #[.pointer (some ⟨bm, 0, none⟩), .pointer (some ⟨bl, 0, none⟩), .pointer (some ⟨bp, 0, none⟩)] w fun e w' => e = .returned (.bool (decide (s.C.length = 19))) ∧ ∃ wm, Below w.heap.size w wm ∧ w' = wm.setRow bp (U (pubR m s.C)).toArray := by
  have h1 := hl.c1
  have C := Lib.hid (Recover_any m s.C s.cA s.cc w hm32 hC hk)
  have HM := Lib.hid hm32
  have HP := Lib.hid hp
  have HP2 := Lib.hid hp32
  have hltp := hp.lt
  clear hm32 hC hk hl hp hp32
  go_enter Tryd.func80, Tryd.ntmps80
  go_wp2_with (refine load_B rfl (.tmp 0) rfl bm rfl 23 m hm HM.out ?_)
  refine C.out.mono ?_
  rintro e w2 ⟨rfl, hb2⟩
  have hz2 := hb2.size
  have n2 : RowB (w2.alloc (.cells (U (flb 32 [])).toArray 23)) w2.heap.size 23 (flb 32 []) := heap_alloc_new w2 _
  have hb3 : Below w2.heap.size w2 ((w2.alloc (.cells (U (flb 32 [])).toArray 23)).setRow w2.heap.size (U (pubR m s.C)).toArray) := below_setRow ((Below.refl _ _).alloc (Nat.le_refl _) _) (Nat.le_refl _) _
  have n3 := n2.setRow (pubR m s.C)
  have hp3 : RowB ((w2.alloc (.cells (U (flb 32 [])).toArray 23)).setRow w2.heap.size (U (pubR m s.C)).toArray) bp 23 p0 := HP.out.keep ((hb3.block _ (by omega)).trans (hb2.block _ hltp))
  have HL := Lib.hid (pubR_len m s.C)
  have HB3 := Lib.hid (hb2.trans (hb3.mono hz2))
  have HE : Hid (pubE s.C = 0 ↔ s.C.length = 19) := Lib.hid (by unfold pubE; by_cases h : s.C.length = 19 <;> simp [h])
  clear C hb2 hb3 h1 hm
  generalize pubE s.C = E at HE ⊢
  go_wp2_with (first
    | (refine store_B rfl (.tmp 4) (.tmp 11) rfl w2.heap.size (flb 32 []) (pubR m s.C) rfl rfl 23 n2 HL.out (by simp [flb]) ?_)
    | (refine load_B rfl (.tmp 4) rfl w2.heap.size rfl 23 (pubR m s.C) n3 HL.out ?_)
    | (refine store_B rfl (.tmp 2) (.tmp 13) rfl bp p0 (pubR m s.C) rfl rfl 23 hp3 HL.out HP2.out ?_))
  go_ret
  refine ⟨?_, _, HB3.out, rfl⟩
  by_cases h : s.C.length = 19
  · rw [decide_eq_true h, HE.out.2 h]; rfl
  · rw [decide_eq_false h]
    have : ¬ E = 0 := fun e => h (HE.out.1 e)
    simp [this]

set_option maxHeartbeats 1600000 in
theorem cond4_all (f : Nat) (hf : f = 1099511627776) (bp bl bn br : Nat) (p r : List UInt8) (s : Lf) (n : Int) (w : World) (hp : RowB w bp 23 p) (hp32 : p.length = 32) (hl : BxL w bl s) (hn : w.cell? ⟨bn, 0, none⟩ = some (.int .i64 n)) (hr : RowB w br 23 r) (hr32 : r.length = 32) (hP : DL w (· < w.heap.size) s.P s.pA s.pc) (hP2 : s.P.length ≤ 1099511627776) (hk : KR w Kt) :
    Calls Tryd.prog 81 #[.pointer (some ⟨bp, 0, none⟩), .pointer (some ⟨bl, 0, none⟩), .pointer (some ⟨bn, 0, none⟩), .pointer (some ⟨br, 0, none⟩)] w fun e w' => e = .returned (.bool (decide (cre f s.i n s.P = 0 ∧ crd f p s.i n s.P = r))) ∧ Below w.heap.size w w' := by
  have h0 := hl.c0
  have h2 := hl.c2
  have C := Lib.hid (Climb_any f p hp32 s.i n s.P s.pA s.pc w (by omega) (by omega) hP hP2 hk)
  have HP := Lib.hid hp32
  have HR := Lib.hid hr
  have HR2 := Lib.hid hr32
  have hltr := hr.lt
  have q1 := eq_dig (crd f p s.i n s.P) r (crd_len f p s.i n s.P) hr32
  have HL := Lib.hid (crd_len f p s.i n s.P)
  clear hp32 hl hr hr32 hP hk hf
  generalize crd f p s.i n s.P = D at *
  generalize cre f s.i n s.P = E at *
  go_enter Tryd.func81, Tryd.ntmps81
  go_wp2_with (refine load_B rfl (.tmp 0) rfl bp rfl 23 p hp HP.out ?_)
  refine C.out.mono ?_
  rintro e w2 ⟨rfl, hb2⟩
  have hz2 := hb2.size
  have n2 : RowB (w2.alloc (.cells (U (flb 32 [])).toArray 23)) w2.heap.size 23 (flb 32 []) := heap_alloc_new w2 _
  have hb3 : Below w2.heap.size w2 ((w2.alloc (.cells (U (flb 32 [])).toArray 23)).setRow w2.heap.size (U D).toArray) := below_setRow ((Below.refl _ _).alloc (Nat.le_refl _) _) (Nat.le_refl _) _
  have n3 := n2.setRow D
  have r3 := HR.out.keep ((hb3.block _ (by omega)).trans (hb2.block _ hltr))
  have HB3 := Lib.hid (hb2.trans (hb3.mono hz2))
  clear C hb2 hb3 h0 h2 hp hn
  by_cases hE : E = 0
  · subst hE
    go_wp2_with (first
      | (refine store_B rfl (.tmp 5) (.tmp 15) rfl w2.heap.size (flb 32 []) D rfl rfl 23 n2 HL.out (by simp [flb]) ?_)
      | (refine load_Bw (by kernel_rfl) (.tmp 5) rfl w2.heap.size rfl 23 D n3 HL.out ?_)
      | (refine load_Bw (by kernel_rfl) (.tmp 3) rfl br rfl 23 r r3 HR2.out ?_))
    go_ret
    exact ⟨by simp, HB3.out⟩
  · go_wp2_with (first
      | (refine store_B rfl (.tmp 5) (.tmp 15) rfl w2.heap.size (flb 32 []) D rfl rfl 23 n2 HL.out (by simp [flb]) ?_))
    go_ret
    exact ⟨by simp [hE], HB3.out⟩
end
section
set_option maxRecDepth 100000
open Go.RowKit

/-- the values of the four conditions, their boxes from block B on -/
def cnds (B : Nat) : Array Value := #[.func (.func 78) #[] #[.pointer (some ⟨B + 1, 0, none⟩)],
  .func (.func 79) #[] #[.pointer (some ⟨B + 3, 0, none⟩), .pointer (some ⟨B + 1, 0, none⟩)],
  .func (.func 80) #[] #[.pointer (some ⟨B + 2, 0, none⟩), .pointer (some ⟨B + 3, 0, none⟩), .pointer (some ⟨B + 4, 0, none⟩)],
  .func (.func 81) #[] #[.pointer (some ⟨B + 4, 0, none⟩), .pointer (some ⟨B + 3, 0, none⟩), .pointer (some ⟨B + 1, 0, none⟩), .pointer (some ⟨B, 0, none⟩)]]
structure Cnd (w : World) (B : Nat) (r : List UInt8) (n : Int) (m : List UInt8) (s : Lf) : Prop where
  root : RowB w B 23 r
  many : w.heap[B + 1]? = some (.cells #[.int .i64 n] 3 (0, 0))
  msg : RowB w (B + 2) 23 m
  leaf : BxL w (B + 3) s
  fns : w.heap[B + 5]? = some (.cells (cnds B) 24 (0, 0))
theorem Cnd.keep {w w' : World} {B : Nat} {r : List UInt8} {n : Int} {m : List UInt8} {s : Lf} (h : Cnd w B r n m s) (hk : ∀ j, B ≤ j → j < B + 6 → j ≠ B + 4 → w'.heap[j]? = w.heap[j]?) : Cnd w' B r n m s :=
  ⟨h.root.keep (hk _ (by omega) (by omega) (by omega)), (hk _ (by omega) (by omega) (by omega)).trans h.many, h.msg.keep (hk _ (by omega) (by omega) (by omega)), h.leaf.keep (hk _ (by omega) (by omega) (by omega)), (hk _ (by omega) (by omega) (by omega)).trans h.fns⟩

theorem cnd_boxes (r m : List UInt8) (n : Int) (s : Lf) (w W : World) (h : (((((w.alloc (.cells (U r).toArray 23)).alloc (.cells #[.int .i64 n] 3)).alloc (.cells (U m).toArray 23)).alloc (.cells s.cs 28)).alloc (.cells (U (flb 32 [])).toArray 23)).alloc (.cells (cnds w.heap.size) 24) = W) :
    Cnd W w.heap.size r n m s ∧ RowB W (w.heap.size + 4) 23 (flb 32 []) ∧ Below w.heap.size w W ∧ W.heap.size = w.heap.size + 6 := by
  obtain ⟨W3, hW3⟩ : ∃ W3, ((w.alloc (.cells (U r).toArray 23)).alloc (.cells #[.int .i64 n] 3)).alloc (.cells (U m).toArray 23) = W3 := ⟨_, rfl⟩
  rw [hW3] at h
  obtain ⟨a1, a2, a3, a4, a5⟩ := box3 w _ _ _ _ _ _ W3 hW3
  obtain ⟨c1, c2, c3, c4, c5⟩ := box3 W3 _ _ _ _ _ _ W h
  rw [a5] at c1 c2 c3 c4 c5
  exact ⟨⟨(c4.block _ (by omega)).trans a1, (c4.block _ (by omega)).trans a2, (c4.block _ (by omega)).trans a3, c1, c3⟩, c2, a4.trans (c4.mono (by omega)), c5⟩
set_option maxHeartbeats 1600000 in
theorem conditions_all (r m : List UInt8) (n : Int) (s : Lf) (w : World) :
    Calls Tryd.prog 46 #[.agg (U r).toArray, .int .i64 n, .agg (U m).toArray, .agg s.cs] w fun e w' => e = .returned (.slice (some ⟨w.heap.size + 5, 0, none⟩) 4 4) ∧ Cnd w' w.heap.size r n m s ∧ RowB w' (w.heap.size + 4) 23 (flb 32 []) ∧ Below w.heap.size w w' ∧ w'.heap.size = w.heap.size + 6 := by
  go_enter Tryd.func46, Tryd.ntmps46
  go_wp2_with fail
  go_ret
  exact ⟨by simp, cnd_boxes r m n s w _ rfl⟩

/-- 0 if a signature is verified, else 60 -/
def VerOk (f : Nat) (r m : List UInt8) (n i : Int) (C P : List (List UInt8)) : Prop := (1 ≤ n ∧ n ≤ 256) ∧ (0 ≤ i ∧ i < n) ∧ C.length = 19 ∧ cre f i n P = 0 ∧ crd f (recF m C) i n P = r
instance (f : Nat) (r m : List UInt8) (n i : Int) (C P : List (List UInt8)) : Decidable (VerOk f r m n i C P) := by unfold VerOk; infer_instance
def verF (f : Nat) (r m : List UInt8) (n i : Int) (C P : List (List UInt8)) : Int := if VerOk f r m n i C P then 0 else 60

set_option maxHeartbeats 3200000 in
theorem Verify_all (f : Nat) (hf : f = 1099511627776) (r m : List UInt8) (n : Int) (s : Lf) (w : World) (hr32 : r.length = 32) (hm32 : m.length = 32) (hok : s.ok w (· < w.heap.size)) (hP2 : s.P.length ≤ 1099511627776) (hk : KR w Kt) :
    Calls Tryd.prog 19 #[.agg (U r).toArray, .int .i64 n, .agg (U m).toArray, .agg s.cs] w fun e w' => e = .returned (.int .i64 (verF f r m n s.i s.C s.P)) ∧ Below w.heap.size w w' := by
  have HR := Lib.hid hr32
  have HM := Lib.hid hm32
  have HF := Lib.hid hf
  have HOK := Lib.hid hok
  have HK := Lib.hid hk
  have hlt0 := hk.lt
  obtain ⟨k1, k2, k3, hb1, hz1⟩ := box3 w (U r).toArray (U m).toArray s.cs 23 23 28 _ rfl
  have r1 : RowB (((w.alloc (.cells (U r).toArray 23)).alloc (.cells (U m).toArray 23)).alloc (.cells s.cs 28)) w.heap.size 23 r := k1
  have r2 : RowB (((w.alloc (.cells (U r).toArray 23)).alloc (.cells (U m).toArray 23)).alloc (.cells s.cs 28)) (w.heap.size + 1) 23 m := k2
  have r3 : BxL (((w.alloc (.cells (U r).toArray 23)).alloc (.cells (U m).toArray 23)).alloc (.cells s.cs 28)) (w.heap.size + 2) s := k3
  have HB1 := Lib.hid hb1
  have HZ1 := Lib.hid hz1
  clear hr32 hm32 hf hok hk k1 k2 k3 hb1 hz1
  go_enter Tryd.func19, Tryd.ntmps19
  go_wp2_with (first
    | (refine load_B rfl (.tmp 4) rfl w.heap.size rfl 23 r r1 HR.out ?_)
    | (refine load_B rfl (.tmp 6) rfl (w.heap.size + 1) rfl 23 m r2 HM.out ?_)
    | (refine load_L rfl (.tmp 7) rfl (w.heap.size + 2) s rfl r3 ?_))
  clear r1 r2 r3
  generalize hW1 : ((w.alloc _).alloc _).alloc _ = W1
  have hb1 : Below w.heap.size w W1 := by subst hW1; exact HB1.out
  have hz1 : W1.heap.size = w.heap.size + 3 := by subst hW1; exact HZ1.out
  clear HB1 HZ1 hW1
  refine (conditions_all r m n s W1).mono ?_
  rintro e W2 ⟨rfl, hc, hp, hb2, hz2⟩
  obtain ⟨B, hB⟩ : ∃ B, W1.heap.size = B := ⟨_, rfl⟩
  rw [hB] at hc hp hb2 hz2 ⊢
  have HC := Lib.hid hc
  have HP := Lib.hid hp
  have HB2 := Lib.hid (hb1.trans (hb2.mono (by omega)))
  have hBw : w.heap.size ≤ B := by omega
  have hsz2 : B + 6 ≤ W2.heap.size := by omega
  clear hc hp hb1 hz1 hb2 hz2 hB
  go_wp2_with fail
  go_loopw [17] (fun x wr => ∃ (k : Nat), x = .int .i64 k ∧ k ≤ 4 ∧ Hid (Cnd wr B r n m s) ∧ Hid (Below w.heap.size w wr) ∧ B + 6 ≤ wr.heap.size ∧ Hid (RowB wr (B + 4) 23 (if k ≤ 2 then flb 32 [] else pubR m s.C)) ∧
      Hid ((1 ≤ k → 1 ≤ n ∧ n ≤ 256) ∧ (2 ≤ k → 0 ≤ s.i ∧ s.i < n) ∧ (3 ≤ k → s.C.length = 19) ∧ (4 ≤ k → cre f s.i n s.P = 0 ∧ crd f (pubR m s.C) s.i n s.P = r)))
    (fun x _ => 4 - (intOf x).toNat)
  case atStart => exact ⟨0, rfl, by omega, HC, HB2, hsz2, HP, Lib.hid ⟨by omega, by omega, by omega, by omega⟩⟩
  case round =>
    obtain ⟨k, rfl, hk, HC2, HBr, hszr, HPr, HQ⟩ := hrel
    by_cases hlt : k < 4
    · have b1 : (k : Int) < 4 := by omega
      have hKR := HK.out.keep (HBr.out.block 0 hlt0)
      have hokr := HOK.out.keep (w' := wr) (S' := (· < wr.heap.size)) fun i hi => ⟨by have := HBr.out.size; omega, HBr.out.block i hi⟩
      have KR0 := Lib.hid hKR
      have OK0 := Lib.hid hokr
      clear hKR hokr
      obtain rfl | rfl | rfl | rfl : k = 0 ∨ k = 1 ∨ k = 2 ∨ k = 3 := by omega
      · have hcell : wr.cell? ⟨B + 5, 0, none⟩ = some (.func (.func 78) #[] #[.pointer (some ⟨B + 1, 0, none⟩)]) := cell_of_row wr (B + 5) 0 _ _ _ HC2.out.fns
        have C := Lib.hid (cond1_all (B + 1) n wr (cell_of_row wr (B + 1) 0 _ _ _ HC2.out.many))
        go_wp2_with fail
        refine C.out.mono ?_
        clear C hcell
        rintro e w3 ⟨rfl, rfl⟩
        have HB3 := HBr
        have HC3 := HC2
        have HP3 := HPr
        have hsz3 := hszr
        by_cases hc : 1 ≤ n ∧ n ≤ 256
        · rw [decide_eq_true hc]
          have HCC := Lib.hid hc
          clear hc
          go_wp2_with fail
          go_roundw
          case rel =>
            exact ⟨1, rfl, by omega, HC3, HB3, hsz3, Lib.hid (by simpa using HP3.out), Lib.hid ⟨fun _ => HCC.out, by omega, by omega, by omega⟩⟩
          case measure => simp [intOf]
        · rw [decide_eq_false hc]
          have HV := Lib.hid (show verF f r m n s.i s.C s.P = 60 from if_neg (fun h => hc h.1))
          clear hc
          go_wp2_with fail
          go_ret
          exact ⟨by rw [HV.out]; rfl, HB3.out⟩
      · have hcell : wr.cell? ⟨B + 5, 1, none⟩ = some (.func (.func 79) #[] #[.pointer (some ⟨B + 3, 0, none⟩), .pointer (some ⟨B + 1, 0, none⟩)]) := cell_of_row wr (B + 5) 1 _ _ _ HC2.out.fns
        have C := Lib.hid (cond2_all (B + 3) (B + 1) s n wr HC2.out.leaf (cell_of_row wr (B + 1) 0 _ _ _ HC2.out.many))
        go_wp2_with fail
        refine C.out.mono ?_
        clear C hcell
        rintro e w3 ⟨rfl, rfl⟩
        have HB3 := HBr
        have HC3 := HC2
        have HP3 := HPr
        have hsz3 := hszr
        by_cases hc : 0 ≤ s.i ∧ s.i < n
        · rw [decide_eq_true hc]
          have HCC := Lib.hid hc
          clear hc
          go_wp2_with fail
          go_roundw
          case rel =>
            exact ⟨2, rfl, by omega, HC3, HB3, hsz3, Lib.hid (by simpa using HP3.out), Lib.hid ⟨fun _ => HQ.out.1 (by omega), fun _ => HCC.out, by omega, by omega⟩⟩
          case measure => simp [intOf]
        · rw [decide_eq_false hc]
          have HV := Lib.hid (show verF f r m n s.i s.C s.P = 60 from if_neg (fun h => hc h.2.1))
          clear hc
          go_wp2_with fail
          go_ret
          exact ⟨by rw [HV.out]; rfl, HB3.out⟩
      · have hcell : wr.cell? ⟨B + 5, 2, none⟩ = some (.func (.func 80) #[] #[.pointer (some ⟨B + 2, 0, none⟩), .pointer (some ⟨B + 3, 0, none⟩), .pointer (some ⟨B + 4, 0, none⟩)]) := cell_of_row wr (B + 5) 2 _ _ _ HC2.out.fns
        have C := Lib.hid (cond3_all (B + 2) (B + 3) (B + 4) m s (flb 32 []) wr HC2.out.msg HM.out HC2.out.leaf HPr.out (by simp [flb]) OK0.out.1 KR0.out)
        go_wp2_with fail
        refine C.out.mono ?_
        clear C hcell
        rintro e w3 ⟨rfl, wm, hbm, hw3⟩
        have hzm := hbm.size
        have HC3 := Lib.hid (show Cnd w3 B r n m s from HC2.out.keep fun j h1 h2 h3 => by rw [hw3, setRow_keep _ _ _ _ h3]; exact hbm.block j (by omega))
        have HB3 := Lib.hid (show Below w.heap.size w w3 by rw [hw3]; exact below_setRow (HBr.out.trans (hbm.mono HBr.out.size)) (by omega) _)
        have HP3 := Lib.hid (show RowB w3 (B + 4) 23 (pubR m s.C) by rw [hw3]; exact (HPr.out.keep (hbm.block _ (by omega))).setRow (pubR m s.C))
        have hsz3 : B + 6 ≤ w3.heap.size := by rw [hw3]; simp; omega
        clear hw3 hbm hzm
        by_cases hc : s.C.length = 19
        · rw [decide_eq_true hc]
          have HCC := Lib.hid hc
          clear hc
          go_wp2_with fail
          go_roundw
          case rel =>
            exact ⟨3, rfl, by omega, HC3, HB3, hsz3, Lib.hid (by simpa using HP3.out), Lib.hid ⟨fun _ => HQ.out.1 (by omega), fun _ => HQ.out.2.1 (by omega), fun _ => HCC.out, by omega⟩⟩
          case measure => simp [intOf]
        · rw [decide_eq_false hc]
          have HV := Lib.hid (show verF f r m n s.i s.C s.P = 60 from if_neg (fun h => hc h.2.2.1))
          clear hc
          go_wp2_with fail
          go_ret
          exact ⟨by rw [HV.out]; rfl, HB3.out⟩
      · have hcell : wr.cell? ⟨B + 5, 3, none⟩ = some (.func (.func 81) #[] #[.pointer (some ⟨B + 4, 0, none⟩), .pointer (some ⟨B + 3, 0, none⟩), .pointer (some ⟨B + 1, 0, none⟩), .pointer (some ⟨B, 0, none⟩)]) := cell_of_row wr (B + 5) 3 _ _ _ HC2.out.fns
        have C := Lib.hid (cond4_all f HF.out (B + 4) (B + 3) (B + 1) B (pubR m s.C) r s n wr HPr.out (pubR_len m s.C) HC2.out.leaf (cell_of_row wr (B + 1) 0 _ _ _ HC2.out.many) HC2.out.root HR.out OK0.out.2 hP2 KR0.out)
        go_wp2_with fail
        refine C.out.mono ?_
        clear C hcell
        rintro e w3 ⟨rfl, hb3⟩
        have hzm := hb3.size
        have HC3 := Lib.hid (show Cnd w3 B r n m s from HC2.out.keep fun j h1 h2 h3 => hb3.block j (by omega))
        have HB3 := Lib.hid (HBr.out.trans (hb3.mono HBr.out.size))
        have HP3 := Lib.hid (show RowB w3 (B + 4) 23 (pubR m s.C) from HPr.out.keep (hb3.block _ (by omega)))
        have hsz3 : B + 6 ≤ w3.heap.size := by omega
        clear hb3 hzm
        by_cases hc : cre f s.i n s.P = 0 ∧ crd f (pubR m s.C) s.i n s.P = r
        · rw [decide_eq_true hc]
          have HCC := Lib.hid hc
          clear hc
          go_wp2_with fail
          go_roundw
          case rel =>
            exact ⟨4, rfl, by omega, HC3, HB3, hsz3, Lib.hid (by simpa using HP3.out), Lib.hid ⟨fun _ => HQ.out.1 (by omega), fun _ => HQ.out.2.1 (by omega), fun _ => HQ.out.2.2.1 (by omega), fun _ => HCC.out⟩⟩
          case measure => simp [intOf]
        · rw [decide_eq_false hc]
          have HV := Lib.hid (show verF f r m n s.i s.C s.P = 60 from if_neg (fun h => hc ⟨h.2.2.2.1, by rw [pubR, if_pos h.2.2.1]; exact h.2.2.2.2⟩))
          clear hc
          go_wp2_with fail
          go_ret
          exact ⟨by rw [HV.out]; rfl, HB3.out⟩
    · obtain rfl : k = 4 := by omega
      have HV := Lib.hid (show verF f r m n s.i s.C s.P = 0 from if_pos ⟨HQ.out.1 (by omega), HQ.out.2.1 (by omega), HQ.out.2.2.1 (by omega), (HQ.out.2.2.2 (by omega)).1, by have := (HQ.out.2.2.2 (by omega)).2; rwa [pubR, if_pos (HQ.out.2.2.1 (by omega))] at this⟩)
      go_wp2_with fail
      go_ret
      exact ⟨by rw [HV.out]; rfl, HBr.out⟩
end
end Go.Proofs.YteicbdjennjcdaaDoor
