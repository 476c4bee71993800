/- Several texts joined: parts MD ME. -/
import Derived.Test.YteicbdjennjcdaaDoorW13
import Derived.Test.YteicbdjennjcdaaDoorW12
import Derived.Test.YteicbdjennjcdaaDoorW08
namespace Go.Proofs.YteicbdjennjcdaaDoor
section
set_option maxRecDepth 100000
open Go.RowKit

theorem isTree_all (n : Int) (w : World) : Calls Tryd.prog 31 #[.int .i64 n] w fun e w' => e = .returned (.bool (decide (1 ≤ n ∧ n ≤ 256))) ∧ w' = w := by
  go_enter Tryd.func31, Tryd.ntmps31
  by_cases h1 : 1 ≤ n
  · by_cases h2 : n ≤ 256
    · rw [decide_eq_true (And.intro h1 h2)]
      go_wp2
      go_ret
      exact ⟨rfl, rfl⟩
    · rw [decide_eq_false (fun h => h2 h.2)]
      go_wp2
      go_ret
      exact ⟨rfl, rfl⟩
  · rw [decide_eq_false (fun h => h1 h.1)]
    go_wp2
    go_ret
    exact ⟨rfl, rfl⟩
theorem rsize_all (n : Int) (w : World) : Calls Tryd.prog 33 #[.int .i64 n] w fun e w' => e = .returned (.bool (decide (1 ≤ n ∧ n ≤ 256))) ∧ w' = w := by
  go_enter Tryd.func33, Tryd.ntmps33
  by_cases h1 : 1 ≤ n
  · by_cases h2 : n ≤ 256
    · rw [decide_eq_true (And.intro h1 h2)]
      go_wp2
      go_ret
      exact ⟨rfl, rfl⟩
    · rw [decide_eq_false (fun h => h2 h.2)]
      go_wp2
      go_ret
      exact ⟨rfl, rfl⟩
  · rw [decide_eq_false (fun h => h1 h.1)]
    go_wp2
    go_ret
    exact ⟨rfl, rfl⟩
theorem isLeaf_all (i n : Int) (w : World) : Calls Tryd.prog 36 #[.int .i64 i, .int .i64 n] w fun e w' => e = .returned (.bool (decide (0 ≤ i ∧ i < n))) ∧ w' = w := by
  go_enter Tryd.func36, Tryd.ntmps36
  by_cases h1 : 0 ≤ i
  · by_cases h2 : i < n
    · rw [decide_eq_true (And.intro h1 h2)]
      go_wp2
      go_ret
      exact ⟨rfl, rfl⟩
    · rw [decide_eq_false (fun h => h2 h.2)]
      go_wp2
      go_ret
      exact ⟨rfl, rfl⟩
  · rw [decide_eq_false (fun h => h1 h.1)]
    go_wp2
    go_ret
    exact ⟨rfl, rfl⟩

set_option maxHeartbeats 1600000 in
theorem publicKeys_all (s : List UInt8) (m : Nat) (w : World) (hs : s.length = 32) (hm : m ≤ 1000000) (hk : KR w Kt) :
    Calls Tryd.prog 32 #[.agg (U s).toArray, .int .i64 m] w fun e w' => ∃ v, e = .returned v ∧ OwnD w' w.heap.size v (pubs s m) ∧ Below w.heap.size w w' := by
  have HS := Lib.hid hs
  have HK := Lib.hid hk
  have hlt0 := hk.lt
  obtain ⟨k1, hb1, hz1⟩ := box1 w (U s).toArray 23 _ rfl
  have R1 := Lib.hid (show RowB (w.alloc (.cells (U s).toArray 23)) w.heap.size 23 s from k1)
  have HB1 := Lib.hid hb1
  have HZ1 := Lib.hid hz1
  clear hs hk k1 hb1 hz1
  go_enter Tryd.func32, Tryd.ntmps32
  go_wp2_with (refine load_B rfl (.tmp 2) rfl w.heap.size rfl 23 s R1.out HS.out ?_)
  refine (leaves_all s m _).mono ?_
  rintro e w3 ⟨rfl, h3⟩
  obtain ⟨k2, k3, hb3, hz3⟩ := box2 _ _ _ _ _ w3 h3.symm
  clear h3
  have hb3' := HB1.out.trans (hb3.mono (by rw [HZ1.out]; omega))
  have HB3 := Lib.hid hb3'
  have C := pcollect_all ((w.alloc (.cells (U s).toArray 23)).heap.size + 1) (w.alloc (.cells (U s).toArray 23)).heap.size s m HS.out hm w3 (by omega) (by omega) (cell_of_row w3 _ 0 _ _ _ k3) k2 (HK.out.keep (hb3'.block 0 hlt0))
  rw [HZ1.out] at C
  have CC := Lib.hid C
  clear C k2 k3 hb3 hz3 hb3'
  go_wp2_with fail
  refine CC.out.mono ?_
  rintro e w4 ⟨v, rfl, hO, hb4⟩
  have HO := Lib.hid (hO.low HB3.out.size)
  have HB4 := Lib.hid (HB3.out.trans (hb4.mono HB3.out.size))
  clear CC hO hb4
  go_wp2_with fail
  go_ret
  exact ⟨v, rfl, HO.out, HB4.out⟩

def rtd (f : Nat) (s : List UInt8) (n : Int) : List UInt8 := if 1 ≤ n ∧ n ≤ 256 then tree f (pubs s n.toNat) else z32
def rte (n : Int) : Int := if 1 ≤ n ∧ n ≤ 256 then 0 else 60
theorem rtd_len (f : Nat) (s : List UInt8) (n : Int) : (rtd f s n).length = 32 := by
  unfold rtd
  split
  · exact tree_len _ _
  · rfl

set_option maxHeartbeats 1600000 in
theorem Root_all (f : Nat) (hf : f = 1099511627776) (s : List UInt8) (n : Int) (w : World) (hs : s.length = 32) (hk : KR w Kt) :
    Calls Tryd.prog 12 #[.agg (U s).toArray, .int .i64 n] w fun e w' => e = .returned (.tuple #[.agg (U (rtd f s n)).toArray, .int .i64 (rte n)]) ∧ Below w.heap.size w w' := by
  have HS := Lib.hid hs
  have HK := Lib.hid hk
  have HF := Lib.hid hf
  have hlt0 := hk.lt
  obtain ⟨k1, k2, hb1, hz1⟩ := box2 w (U s).toArray (U (flb 32 [])).toArray 23 23 _ rfl
  have r1 : RowB ((w.alloc (.cells (U s).toArray 23)).alloc (.cells (U (flb 32 [])).toArray 23)) w.heap.size 23 s := k1
  have r2 : RowB ((w.alloc (.cells (U s).toArray 23)).alloc (.cells (U (flb 32 [])).toArray 23)) (w.heap.size + 1) 23 (flb 32 []) := k2
  have HB1 := Lib.hid hb1
  have HZ1 := Lib.hid hz1
  have HK1 := Lib.hid (hk.keep (hb1.block 0 hlt0))
  clear hs hk k1 k2 hb1 hz1 hf
  go_enter Tryd.func12, Tryd.ntmps12
  by_cases h : 1 ≤ n ∧ n ≤ 256
  · obtain ⟨m, rfl⟩ : ∃ m : Nat, n = m := ⟨n.toNat, by omega⟩
    go_wp2_with fail
    refine (isTree_all m _).mono ?_
    rintro e w2 ⟨rfl, rfl⟩
    rw [decide_eq_true h]
    go_wp2_with (refine load_B rfl (.tmp 2) rfl w.heap.size rfl 23 s r1 HS.out ?_)
    have C := publicKeys_all s m _ HS.out (by omega) HK1.out
    refine C.mono ?_
    rintro e w3 ⟨v, rfl, hO, hb3⟩
    obtain ⟨A, c, rfl⟩ := hO.slice
    have hb3' := HB1.out.trans (hb3.mono (by rw [HZ1.out]; omega))
    have C2 := Lib.hid (tree_all f (pubs s m) A c w3 (by rw [pubs_len, HF.out]; omega) (by rw [HF.out]; omega) (hO.dlw rfl) (HK.out.keep (hb3'.block 0 hlt0)))
    have r3 := r2.keep (hb3.block _ (by rw [HZ1.out]; omega))
    have HB3 := Lib.hid hb3'
    have R3 := Lib.hid r3
    clear C hO hb3 hb3' r3 r1 r2
    go_wp2_with fail
    refine C2.out.mono ?_
    rintro e w4 ⟨rfl, hb4⟩
    have r4 := R3.out.keep (hb4.block _ R3.out.lt)
    have hrt : tree f (pubs s m) = rtd f s m := by rw [rtd, if_pos h, Int.toNat_natCast]
    have HRE := Lib.hid (show rte m = 0 from if_pos h)
    rw [hrt]
    have r5 := r4.setRow (rtd f s m)
    have HB4 := Lib.hid (HB3.out.trans (hb4.mono HB3.out.size))
    clear C2 hb4 hrt
    go_wp2_with (refine store_B rfl (.tmp 4) (.tmp 13) rfl (w.heap.size + 1) (flb 32 []) (rtd f s m) rfl rfl 23 r4 (rtd_len _ _ _) (by simp [flb]) ?_)
    exact bodyPost_ret (res_two rfl _ _ _ _ _ _ rfl rfl r5 (rtd_len _ _ _)) rfl ⟨by rw [HRE.out]; rfl, below_setRow HB4.out (by omega) _⟩
  · have hrt : rtd f s n = z32 := if_neg h
    have hre : rte n = 60 := if_neg h
    rw [hrt, hre]
    go_wp2_with fail
    refine (isTree_all n _).mono ?_
    rintro e w2 ⟨rfl, rfl⟩
    rw [decide_eq_false h]
    have r5 := r2.setRow z32
    clear hrt hre r1
    go_wp2_with (refine store_B rfl (.tmp 4) (.tmp 9) rfl (w.heap.size + 1) (flb 32 []) z32 rfl rfl 23 r2 rfl (by simp [flb]) ?_)
    exact bodyPost_ret (res_two rfl _ _ _ _ _ _ rfl rfl r5 rfl) rfl ⟨rfl, below_setRow HB1.out (by omega) _⟩
end
section
set_option maxRecDepth 100000
open Go.RowKit

/-- a signature as it lies in memory -/
structure Lf where
  i : Int
  C : List (List UInt8)
  P : List (List UInt8)
  cA : Option Addr
  cc : Nat
  pA : Option Addr
  pc : Nat
def Lf.cs (s : Lf) : Array Value := #[.int .i64 s.i, .slice s.cA s.C.length s.cc, .slice s.pA s.P.length s.pc]
def Lf.zero : Lf := ⟨0, [], [], none, 0, none, 0⟩
def Lf.ok (s : Lf) (w : World) (S : Nat → Prop) : Prop := DL w S s.C s.cA s.cc ∧ DL w S s.P s.pA s.pc
def BxL (w : World) (g : Nat) (s : Lf) : Prop := w.heap[g]? = some (.cells s.cs 28 (0, 0))
theorem BxL.lt {w : World} {g : Nat} {s : Lf} (h : BxL w g s) : g < w.heap.size := (Array.getElem?_eq_some_iff.1 h).1
theorem BxL.keep {w w' : World} {g : Nat} {s : Lf} (h : BxL w g s) (hk : w'.heap[g]? = w.heap[g]?) : BxL w' g s := hk.trans h
theorem BxL.c0 {w : World} {g : Nat} {s : Lf} (h : BxL w g s) : w.cell? ⟨g, 0, none⟩ = some (.int .i64 s.i) := cell_of_row w g 0 _ _ _ h
theorem BxL.c1 {w : World} {g : Nat} {s : Lf} (h : BxL w g s) : w.cell? ⟨g, 1, none⟩ = some (.slice s.cA s.C.length s.cc) := cell_of_row w g 1 _ _ _ h
theorem BxL.c2 {w : World} {g : Nat} {s : Lf} (h : BxL w g s) : w.cell? ⟨g, 2, none⟩ = some (.slice s.pA s.P.length s.pc) := cell_of_row w g 2 _ _ _ h
theorem BxL.setRow {w : World} {g : Nat} {s : Lf} (h : BxL w g s) (t : Lf) : BxL (w.setRow g t.cs) g t := setRow_heap w g _ _ _ _ h
theorem Lf.ok.keep {w w' : World} {S S' : Nat → Prop} {s : Lf} (h : s.ok w S) (hs : ∀ i, S i → S' i ∧ w'.heap[i]? = w.heap[i]?) : s.ok w' S' := ⟨h.1.keep hs, h.2.keep hs⟩
theorem szL : (Tryd.prog.info? 28).map (·.size) = some 3 := by kernel_rfl
section
variable {ops : Array Oper} {rest : List Oper} {o : Oper} {a : Act} {w : World} {Q : Exit → Act → World → Prop}
theorem load_L (hgd : o.guard = none) (x : Operand) (ho : o.op = .load 28 x) (g : Nat) (s : Lf) (hx : a.eval x = .pointer (some ⟨g, 0, none⟩)) (h : BxL w g s)
    (hK : wpList Tryd.prog ops Q rest (a.put o.dst (.agg #[.int .i64 s.i, .slice s.cA s.C.length s.cc, .slice s.pA s.P.length s.pc])) w) : wpList Tryd.prog ops Q (o :: rest) a w :=
  wpList_load_row hgd 28 x ho g hx 28 _ (0, 0) _ h Tryd.underlying28 rfl szL hK
theorem load_Lw (hw : Region.wanted o (yielded ops a.tmps) = true) (x : Operand) (ho : o.op = .load 28 x) (g : Nat) (s : Lf) (hx : a.eval x = .pointer (some ⟨g, 0, none⟩)) (h : BxL w g s)
    (hK : wpList Tryd.prog ops Q rest (a.put o.dst (.agg #[.int .i64 s.i, .slice s.cA s.C.length s.cc, .slice s.pA s.P.length s.pc])) w) : wpList Tryd.prog ops Q (o :: rest) a w :=
  BigFrame.wpList_want hw fun _ hK' => wp_load_row 28 x ho g hx 28 _ (0, 0) _ h Tryd.underlying28 rfl szL (hK' _ _ hK)
theorem store_L (hgd : o.guard = none) (x y : Operand) (ho : o.op = .store 28 x y) (g : Nat) (s t : Lf) (hx : a.eval x = .pointer (some ⟨g, 0, none⟩)) (hy : a.eval y = .agg t.cs) (h : BxL w g s)
    (hK : wpList Tryd.prog ops Q rest (a.put o.dst undef) (w.setRow g t.cs)) : wpList Tryd.prog ops Q (o :: rest) a w :=
  wpList_store_row hgd 28 x y ho g _ hx hy 28 _ h szL rfl (by simp [Lf.cs, Value.oneCell']) hK
end
theorem res_L {fn : Func} {p q : Tmp} (h : fn.results = #[.cell p 28, .tmp q]) (tmps : Array Value) (w : World) (g : Nat) (s : Lf) (v : Value)
    (hp : tmps.getD p undef = .pointer (some ⟨g, 0, none⟩)) (hq : tmps.getD q undef = v) (hg : BxL w g s) :
    (results fn tmps).run Tryd.prog w = .ok (.tuple #[.agg s.cs, v]) w := by
  have hld := run_loadVar_row (P := Tryd.prog) w g 28 28 _ (0, 0) _ hg Tryd.underlying28 rfl szL
  have hp' : tmps[p]?.getD undef = .pointer (some ⟨g, 0, none⟩) := by simpa using hp
  have hq' : tmps[q]?.getD undef = v := by simpa using hq
  simp [results, h, hp', hq', asAddr, hld]
theorem ev_buildL {o : Oper} {a : Act} {w : World} (x y z : Operand) (s : Lf) (ho : o.op = .build 28 #[(0, x), (1, y), (2, z)]) (hx : a.eval x = .int .i64 s.i) (hy : a.eval y = .slice s.cA s.C.length s.cc) (hz : a.eval z = .slice s.pA s.P.length s.pc) :
    (execOp a.eval o).run Tryd.prog w = .ok (.value (.agg s.cs)) w := by
  have hb : (Instr.build 28 #[(0, .int .i64 s.i), (1, .slice s.cA s.C.length s.cc), (2, .slice s.pA s.P.length s.pc)]).run Tryd.prog w = .ok (.agg s.cs) w := run_build w 28 _ _ (by kernel_rfl)
  simp [execOp, ho, hx, hy, hz, hb, Result.andThen]
theorem to_storeL {ops : Array Oper} {o : Oper} {a : Act} {w : World} {K : Act → World → Prop} {Q : Exit → Act → World → Prop} {E : Prop} (x y : Operand) (hgd : o.guard = none) (ho : o.op = .store 28 x y) (hd : o.dst = none) (g : Nat) (s t : Lf) (hx : a.eval x = .pointer (some ⟨g, 0, none⟩)) (hy : a.eval y = .agg t.cs) (h : BxL w g s)
    (hK : K a (w.setRow g t.cs)) : if Region.wanted o (yielded ops a.tmps) = true then Oper.wp Tryd.prog o a w K Q else E := by
  have hw : Region.wanted o (yielded ops a.tmps) = true := by simp [Region.wanted, hgd]
  rw [if_pos hw]
  refine wp_store_row 28 x y ho g _ hx hy 28 _ h szL rfl (by simp [Lf.cs, Value.oneCell']) ?_
  rw [hd]
  exact hK
theorem box3b (w : World) (s m : List UInt8) (W1 : World) (h : ((w.alloc (.cells (U s).toArray 23)).alloc (.cells (U m).toArray 23)).alloc (.cells #[.int .i64 0, .slice none 0 0, .slice none 0 0] 28) = W1) :
    RowB W1 w.heap.size 23 s ∧ RowB W1 (w.heap.size + 1) 23 m ∧ BxL W1 (w.heap.size + 2) Lf.zero ∧ Below w.heap.size w W1 ∧ W1.heap.size = w.heap.size + 3 := by
  obtain ⟨h1, h2, h3, h4, h5⟩ := box3 w _ _ _ _ _ _ W1 h
  exact ⟨h1, h2, h3, h4, h5⟩
theorem enters_Seed : Enters Tryd.prog 16 := enters_of Tryd.func16 (by kernel_rfl) rfl
theorem enters_rSeed : Enters Tryd.prog 17 := enters_of Tryd.func17 (by kernel_rfl) rfl
theorem enters_cSign : Enters Tryd.prog 38 := enters_of Tryd.func38 (by kernel_rfl) rfl
theorem enters_rcSign : Enters Tryd.prog 40 := enters_of Tryd.func40 (by kernel_rfl) rfl

/-- no leaf -/
abbrev NoLf (n i : Int) : Prop := ¬ ((1 ≤ n ∧ n ≤ 256) ∧ 0 ≤ i ∧ i < n)

set_option maxHeartbeats 1600000 in
theorem Sign_no (s m : List UInt8) (n i : Int) (w : World) (h : NoLf n i) :
    Calls Tryd.prog 14 #[.agg (U s).toArray, .int .i64 n, .int .i64 i, .agg (U m).toArray] w fun e w' => e = .returned (.tuple #[.agg Lf.zero.cs, .int .i64 60]) ∧ Below w.heap.size w w' := by
  go_enter Tryd.func14, Tryd.ntmps14
  go_wp2_with fail
  generalize hW1 : ((w.alloc _).alloc _).alloc _ = W1
  obtain ⟨_, _, b3, hb, _⟩ := box3b w s m W1 hW1
  clear hW1
  have HB := Lib.hid hb
  have B4 := b3.setRow Lf.zero
  refine (isTree_all n _).mono ?_
  rintro e w2 ⟨rfl, rfl⟩
  by_cases h1 : 1 ≤ n ∧ n ≤ 256
  · rw [decide_eq_true h1]
    go_wp2_with fail
    refine (isLeaf_all i n _).mono ?_
    rintro e w3 ⟨rfl, rfl⟩
    rw [decide_eq_false (fun h2 => h ⟨h1, h2⟩)]
    go_wp2_with (refine store_L rfl (.tmp 8) (.tmp 20) rfl (w.heap.size + 2) Lf.zero Lf.zero rfl rfl b3 ?_)
    exact bodyPost_ret (res_L rfl _ _ _ _ _ rfl rfl B4) rfl ⟨rfl, below_setRow HB.out (by omega) _⟩
  · rw [decide_eq_false h1]
    go_wp2_with (refine store_L rfl (.tmp 8) (.tmp 20) rfl (w.heap.size + 2) Lf.zero Lf.zero rfl rfl b3 ?_)
    exact bodyPost_ret (res_L rfl _ _ _ _ _ rfl rfl B4) rfl ⟨rfl, below_setRow HB.out (by omega) _⟩

/-- a signature of a leaf, newly made -/
def SgOk (f : Nat) (s m : List UInt8) (n i : Nat) (w w' : World) (t : Lf) : Prop :=
  t.i = i ∧ t.C = sgn (sdK s i) m ∧ t.P = pth f (pubs s n) i ∧ t.ok w' (fun j => w.heap.size ≤ j ∧ j < w'.heap.size)

set_option maxHeartbeats 3200000 in
theorem Sign_yes (f : Nat) (hf : f = 1099511627776) (s m : List UInt8) (n i : Nat) (w : World) (hn1 : 1 ≤ n) (hn2 : n ≤ 256) (hi : i < n) (hs : s.length = 32) (hm : m.length = 32) (hk : KR w Kt) :
    Calls Tryd.prog 14 #[.agg (U s).toArray, .int .i64 n, .int .i64 i, .agg (U m).toArray] w fun e w' => ∃ t, e = .returned (.tuple #[.agg t.cs, .int .i64 0]) ∧ SgOk f s m n i w w' t ∧ Below w.heap.size w w' := by
  have HS := Lib.hid hs
  have HM := Lib.hid hm
  have HK := Lib.hid hk
  have HF := Lib.hid hf
  have hlt0 := hk.lt
  clear hs hm hk hf
  go_enter Tryd.func14, Tryd.ntmps14
  go_wp2_with fail
  generalize hW1 : ((w.alloc _).alloc _).alloc _ = W1
  obtain ⟨b1, b2, b3, hb1, hz1⟩ := box3b w s m W1 hW1
  have B1 := Lib.hid b1
  have B2 := Lib.hid b2
  have B3 := Lib.hid b3
  have HB1 := Lib.hid hb1
  have hsz1 : w.heap.size + 3 ≤ W1.heap.size := by omega
  clear hW1 b2 b3 hb1 hz1
  refine (isTree_all n _).mono ?_
  rintro e w2 ⟨rfl, rfl⟩
  rw [decide_eq_true (show (1 : Int) ≤ n ∧ (n : Int) ≤ 256 by omega)]
  go_wp2_with fail
  refine (isLeaf_all i n _).mono ?_
  rintro e w3 ⟨rfl, rfl⟩
  rw [decide_eq_true (show (0 : Int) ≤ i ∧ (i : Int) < n by omega)]
  go_wp2_with (refine load_B rfl (.tmp 4) rfl w.heap.size rfl 23 s b1 HS.out ?_)
  refine (publicKeys_all s n _ HS.out (by omega) (HK.out.keep (HB1.out.block 0 hlt0))).mono ?_
  rintro e w4 ⟨v, rfl, hO4, hb4⟩
  have hz4 := hb4.size
  obtain ⟨A, c, rfl⟩ := hO4.slice
  have hb4' := HB1.out.trans (hb4.mono (by omega))
  have C := Lib.hid (Path_any f (pubs s n) i A c w4 (by rw [pubs_len, HF.out]; omega) (by rw [HF.out]; omega) (hO4.dlw rfl) (HK.out.keep (hb4'.block 0 hlt0)))
  have HB4 := Lib.hid hb4'
  have HB4a := Lib.hid hb4
  clear hb4 hb4' hO4 b1
  go_wp2_with fail
  refine C.out.mono ?_
  rintro e w5 ⟨A5, c5, rfl, hD5, hb5⟩
  have hpr : prp f (pubs s n) i = pth f (pubs s n) i := by rw [prp, if_pos (by rw [pubs_len]; omega), Int.toNat_natCast]
  have hpe : pre_ (pubs s n) i = 0 := by rw [pre_, if_pos (by rw [pubs_len]; omega)]
  rw [hpr] at hD5 ⊢
  rw [hpe]
  clear C hpr hpe
  go_wp2_with fail
  have hz5 := hb5.size
  have hbW := HB4.out.trans (hb5.mono (by omega))
  have hbV := HB4a.out.trans (hb5.mono (by omega))
  have KEEP := Lib.hid (show ∀ ww, Below w5.heap.size w5 ww → RowB ww w.heap.size 23 s ∧ RowB ww (w.heap.size + 1) 23 m ∧ BxL ww (w.heap.size + 2) Lf.zero ∧ KR ww Kt ∧ Below w.heap.size w ww from fun ww h =>
    ⟨(h.block _ (by omega)).trans ((hbV.block _ (by omega)).trans B1.out), (h.block _ (by omega)).trans ((hbV.block _ (by omega)).trans B2.out), B3.out.keep ((h.block _ (by omega)).trans (hbV.block _ (by omega))), HK.out.keep ((h.block 0 (by omega)).trans (hbW.block 0 hlt0)), hbW.trans (h.mono hbW.size)⟩)
  have SB := Lib.hid (show ∀ ww, Below w5.heap.size w5 ww → RowB ww w.heap.size 23 s ∧ RowB ww (w.heap.size + 1) 23 m from fun ww h => ⟨(KEEP.out ww h).1, (KEEP.out ww h).2.1⟩)
  have STEP := Lib.hid (show ∀ ww w', Below w5.heap.size w5 ww → Below ww.heap.size ww w' → Below w5.heap.size w5 w' from fun ww w' h1 h2 => h1.trans (h2.mono h1.size))
  have HD5 := Lib.hid hD5
  have hz : w.heap.size + 3 ≤ w4.heap.size := by omega
  have hbx : Below w5.heap.size w5 w5.drew := (Below.refl _ _).drew
  clear B1 B2 B3 hbW hbV hb5 hD5 HB4 HB4a HB1 hsz1 hz4
  refine wp_region_noPanic ?_
  refine wp_region_held_drew (S := fun ww => RowB ww w.heap.size 23 s ∧ RowB ww (w.heap.size + 1) 23 m) (by kernel_rfl) (SB.out _ hbx) (fun h0 => ?_)
  refine tk_move 0 29 (.tmp 2) (.int .i64 i) rfl (by kernel_rfl) (by kernel_rfl) (by kernel_rfl) (fun _ _ _ _ h => h) rfl rfl rfl rfl h0 ?_
  simp only [Act.put, List.setIfInBounds_toArray, List.set_cons_zero, List.set_cons_succ]
  refine tk_load 1 30 (.tmp 4) w.heap.size (0) s rfl (by kernel_rfl) (by kernel_rfl) (by kernel_rfl) (fun _ _ _ _ h => h) rfl rfl rfl rfl (fun ww h => h.1.range) HS.out h0 ?_
  simp only [Act.put, List.setIfInBounds_toArray, List.set_cons_zero, List.set_cons_succ]
  refine tk_move 2 31 (.tmp 2) (.int .i64 i) rfl (by kernel_rfl) (by kernel_rfl) (by kernel_rfl) (fun _ _ _ _ h => h) rfl rfl rfl rfl h0 ?_
  simp only [Act.put, List.setIfInBounds_toArray, List.set_cons_zero, List.set_cons_succ]
  refine tk_load 4 33 (.tmp 7) (w.heap.size + 1) (0) m rfl (by kernel_rfl) (by kernel_rfl) (by kernel_rfl) (fun _ _ _ _ h => h) rfl rfl rfl rfl (fun ww h => h.2.range) HM.out h0 ?_
  simp only [Act.put, List.setIfInBounds_toArray, List.set_cons_zero, List.set_cons_succ]
  refine tk_move 6 35 (.tmp 10) (.slice A5 (pth f (pubs s n) i).length c5) rfl (by kernel_rfl) (by kernel_rfl) (by kernel_rfl) (fun _ _ _ _ h => h) rfl rfl rfl rfl h0 ?_
  simp only [Act.put, List.setIfInBounds_toArray, List.set_cons_zero, List.set_cons_succ]
  refine tk_move 8 37 (.tmp 9) (.int .i64 0) rfl (by kernel_rfl) (by kernel_rfl) (by kernel_rfl) (fun _ _ _ _ h => h) rfl rfl rfl rfl h0 ?_
  simp only [Act.put, List.setIfInBounds_toArray, List.set_cons_zero, List.set_cons_succ]
  clear h0
  generalize w5.drew = V0 at hbx ⊢
  refine lone 3 (by kernel_rfl) rfl (fun K hK => to_call 16 32 _ _ #[.agg (U s).toArray, .int .i64 i] _ rfl rfl rfl rfl enters_Seed (Seed_all s i V0 HS.out (by omega) (by omega) (KEEP.out _ hbx).2.2.2.1) (fun e w6 hq => ?_))
  refine ⟨_, hq.1, ?_⟩
  have hx6 := STEP.out _ _ hbx hq.2
  refine hK _ _ (SB.out _ hx6) ?_
  simp only [Act.put, List.setIfInBounds_toArray, List.set_cons_zero, List.set_cons_succ]
  clear hK hq
  refine lone 5 (by kernel_rfl) rfl (fun K hK => to_call 38 34 _ _ #[.agg (U (sdK s i)).toArray, .agg (U m).toArray] _ rfl rfl rfl rfl enters_cSign (sign_all (sdK s i) m w6 (sdK_len _ _) HM.out (KEEP.out _ hx6).2.2.2.1) (fun e w7 hq => ?_))
  obtain ⟨v7, h71, hO7, hb7⟩ := hq
  refine ⟨_, h71, ?_⟩
  have hx7 := STEP.out _ _ hx6 hb7
  refine hK _ _ (SB.out _ hx7) ?_
  simp only [Act.put, List.setIfInBounds_toArray, List.set_cons_zero, List.set_cons_succ]
  clear hK
  obtain ⟨A7, c7, rfl⟩ := hO7.slice
  obtain ⟨t, ht⟩ : ∃ t : Lf, t = ⟨i, sgn (sdK s i) m, pth f (pubs s n) i, A7, c7, A5, c5⟩ := ⟨_, rfl⟩
  have HT := Lib.hid ht
  have HOK := Lib.hid (show ∀ ww, (∀ j, w.heap.size + 3 ≤ j → j < w7.heap.size → ww.heap[j]? = w7.heap[j]?) → w7.heap.size ≤ ww.heap.size → SgOk f s m n i w ww t from fun ww hk hz7 => by
    rw [ht]
    have hxz := hx6.size
    exact ⟨rfl, rfl, rfl, (hO7.dlw rfl |>.keep fun j hj => ⟨hj, rfl⟩) |> fun _ => by
      obtain ⟨A', c', e', hd'⟩ := hO7.dl
      injection e' with e1 _ e3
      subst e1 e3
      exact ⟨hd'.keep fun j hj => ⟨⟨by omega, by omega⟩, hk j (by omega) hj.2⟩, HD5.out.keep fun j hj => ⟨⟨by omega, by have := hx7.size; omega⟩, (hk j (by omega) (by have := hx7.size; omega)).trans (hx7.block j hj.2)⟩⟩⟩)
  refine tk_val 7 36 (.agg t.cs) rfl (by kernel_rfl) (by kernel_rfl) (by kernel_rfl) (fun _ _ _ _ h => h) rfl rfl (fun _ _ => ev_buildL (.tmp 29) (.tmp 34) (.tmp 35) t rfl (by rw [HT.out]; rfl) (by rw [HT.out]; rfl) (by rw [HT.out]; rfl)) (SB.out _ hx7) ?_
  simp only [Act.put, List.setIfInBounds_toArray, List.set_cons_zero, List.set_cons_succ]
  have B7 := (KEEP.out _ hx7).2.2.1
  have B8 := B7.setRow t
  have HFIN := Lib.hid (below_setRow (KEEP.out _ hx7).2.2.2.2 (Nat.le_add_right _ 2) t.cs)
  have HS8 := Lib.hid (HOK.out (w7.setRow (w.heap.size + 2) t.cs) (fun j h1 h2 => setRow_keep _ _ _ _ (by omega)) (by simp))
  have hS8 : RowB (w7.setRow (w.heap.size + 2) t.cs) w.heap.size 23 s ∧ RowB (w7.setRow (w.heap.size + 2) t.cs) (w.heap.size + 1) 23 m := ⟨(SB.out _ hx7).1.keep (setRow_keep _ _ _ _ (by omega)), (SB.out _ hx7).2.keep (setRow_keep _ _ _ _ (by omega))⟩
  clear HOK ht HT hx6 hO7 hb7 KEEP STEP HD5 hbx
  refine lone 9 (by kernel_rfl) rfl (fun K hK => to_storeL (.tmp 8) (.tmp 36) rfl rfl rfl (w.heap.size + 2) Lf.zero t rfl rfl B7 ?_)
  refine hK _ _ hS8 ?_
  refine tk_assign 10 9 (.tmp 37) (.int .i64 0) rfl (by kernel_rfl) (by kernel_rfl) (by kernel_rfl) (fun _ _ _ _ h => h) rfl rfl rfl rfl hS8 ?_
  simp only [Act.put, List.setIfInBounds_toArray, List.set_cons_zero, List.set_cons_succ]
  refine wpAnyH_done (by kernel_rfl) (NoPanic.normal ?_) _
  go_wp2_with fail
  exact bodyPost_ret (res_L rfl _ _ _ _ _ rfl rfl B8) rfl ⟨t, rfl, HS8.out, HFIN.out⟩
end
end Go.Proofs.YteicbdjennjcdaaDoor
