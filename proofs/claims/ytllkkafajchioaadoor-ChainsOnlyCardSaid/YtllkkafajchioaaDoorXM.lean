/- Chains: Public, Recover, Verify, Earlier, Digits. -/
import Derived.Test.YtllkkafajchioaaDoorXL
namespace Go.Proofs.YtllkkafajchioaaDoor
open Go.RowKit

def pubF (s : List UInt8) : List UInt8 := pubk (rc (fsts s 19) (List.replicate 19 3) 19)
def recF (m : List UInt8) (L : List (List UInt8)) : List UInt8 := pubk (rc L (lft (dgl m)) 19)
theorem pubF_len (s : List UInt8) : (pubF s).length = 32 := pubk_len _
theorem recF_len (m : List UInt8) (L : List (List UInt8)) : (recF m L).length = 32 := pubk_len _
theorem DL.low {w : World} {S : Nat → Prop} {L : List (List UInt8)} {A : Option Addr} {c : Nat} (h : DL w S L A c) {S' : Nat → Prop} (hs : ∀ i, S i → S' i) : DL w S' L A c := h.keep fun i hi => ⟨hs i hi, rfl⟩
theorem load_Bw {ops : Array Oper} {rest : List Oper} {o : Oper} {a : Act} {w : World} {Q : Exit → Act → World → Prop} (hw : Region.wanted o (yielded ops a.tmps) = true) (x : Operand) (ho : o.op = .load 23 x)
    (g : Nat) (hx : a.eval x = .pointer (some ⟨g, 0, none⟩)) (t : TypeId) (l : List UInt8) (h : RowB w g t l) (hl : l.length = 32)
    (hK : wpList Tryd.prog ops Q rest (a.put o.dst (.agg (U l).toArray)) w) : wpList Tryd.prog ops Q (o :: rest) a w :=
  BigFrame.wpList_want hw fun _ hK' => wp_load_row 23 x ho g hx t _ (0, 0) _ h Tryd.underlying23 rfl (by rw [sz32, U_size, hl]) (hK' _ _ hK)

set_option maxRecDepth 100000 in
set_option maxHeartbeats 1600000 in
theorem Public_all (s : List UInt8) (w : World) (hs : s.length = 32) (hk : KR w Kt) :
    Calls Tryd.prog 18 #[.agg (U s).toArray] w fun e w' => e = .returned (.agg (U (pubF s)).toArray) ∧ Below w.heap.size w w' := by
  have HS := Lib.hid hs
  have HK := Lib.hid hk
  have hlt0 := hk.lt
  clear hs hk
  have hbx := box2 w (U s).toArray (U (flb 32 [])).toArray 23 23 _ rfl
  have r1 : RowB ((w.alloc (.cells (U s).toArray 23)).alloc (.cells (U (flb 32 [])).toArray 23)) w.heap.size 23 s := hbx.1
  clear hbx
  go_enter Tryd.func18, Tryd.ntmps18
  go_wp2_with (refine load_B rfl (.tmp 1) rfl w.heap.size rfl 23 s r1 HS.out ?_)
  clear r1
  generalize hW1 : (w.alloc _).alloc _ = W1
  obtain ⟨_, h1, hb1, hz1⟩ := box2 w (U s).toArray (U (flb 32 [])).toArray 23 23 W1 hW1
  clear hW1
  have R1 := Lib.hid (show RowB W1 (w.heap.size + 1) 23 (flb 32 []) from h1)
  have C := firsts_all s W1 HS.out (HK.out.keep (hb1.block 0 hlt0))
  refine C.mono ?_
  rintro e w2 ⟨v, rfl, ho, hb2⟩
  have hz2 := hb2.size
  obtain ⟨A, c, rfl⟩ := ho.slice
  have hbw := hb1.trans (hb2.mono (by omega))
  have C2 := Lib.hid (public_all (fsts s 19) A c (List.replicate 19 0) (fsts_len s 19) (by simp) (by intro d hd; rw [List.eq_of_mem_replicate hd]; omega) w2 ((ho.dlw rfl)) (HK.out.keep (hbw.block 0 hlt0)))
  rw [show pubk (rc (fsts s 19) (lft (List.replicate 19 0)) 19) = pubF s from rfl] at C2
  have R2 := Lib.hid (R1.out.keep (hb2.block _ (by omega)))
  have HB2 := Lib.hid hbw
  clear C ho hb1 hb2 hbw h1
  rw [fsts_len]
  go_wp2_with fail
  refine C2.out.mono ?_
  rintro e w3 ⟨rfl, hb3⟩
  have hr3 := R2.out.keep (hb3.block _ (by omega))
  have hr4 := hr3.setRow (pubF s)
  have HB3 := Lib.hid (HB2.out.trans (hb3.mono (by omega)))
  clear C2 hb3
  go_wp2_with (refine store_B rfl (.tmp 2) (.tmp 6) rfl (w.heap.size + 1) (flb 32 []) (pubF s) rfl rfl 23 hr3 (pubF_len _) (by simp [flb]) ?_)
  exact bodyPost_ret (res_B rfl _ _ _ _ _ rfl hr4 (pubF_len _)) rfl ⟨rfl, below_setRow HB3.out (by omega) _⟩

set_option maxRecDepth 100000 in
set_option maxHeartbeats 1600000 in
theorem Recover_no (m : List UInt8) (n cap : Nat) (A : Option Addr) (w : World) (hn : n ≠ 19) (_hm : n ≤ 9223372036854775807) :
    Calls Tryd.prog 16 #[.agg (U m).toArray, .slice A n cap] w fun e w' => e = .returned (.tuple #[.agg (U z32).toArray, .int .i64 50]) ∧ Below w.heap.size w w' := by
  have hne : ((n : Int) != 19) = true := by
    have : ¬ ((n : Int) = 19) := by omega
    simpa using this
  have hbx := box2 w (U m).toArray (U (flb 32 [])).toArray 23 23 _ rfl
  have r1 : RowB ((w.alloc (.cells (U m).toArray 23)).alloc (.cells (U (flb 32 [])).toArray 23)) (w.heap.size + 1) 23 (flb 32 []) := hbx.2.1
  have r2 := r1.setRow z32
  have HB := Lib.hid hbx.2.2.1
  clear hbx hn
  go_enter Tryd.func16, Tryd.ntmps16
  go_wp2_with (refine store_B rfl (.tmp 4) (.tmp 9) rfl (w.heap.size + 1) (flb 32 []) z32 rfl rfl 23 r1 rfl (by simp [flb]) ?_)
  exact bodyPost_ret (res_two rfl _ _ _ _ _ _ rfl rfl r2 rfl) rfl ⟨rfl, below_setRow HB.out (by omega) _⟩

set_option maxRecDepth 100000 in
set_option maxHeartbeats 1600000 in
theorem Recover_yes (m : List UInt8) (L : List (List UInt8)) (A : Option Addr) (cap : Nat) (w : World) (hm : m.length = 32) (hL : L.length = 19) (hl : DL w (· < w.heap.size) L A cap) (hk : KR w Kt) :
    Calls Tryd.prog 16 #[.agg (U m).toArray, .slice A 19 cap] w fun e w' => e = .returned (.tuple #[.agg (U (recF m L)).toArray, .int .i64 0]) ∧ Below w.heap.size w w' := by
  have HM := Lib.hid hm
  have HL := Lib.hid hl
  have HK := Lib.hid hk
  have HLL := Lib.hid hL
  have hlt0 := hk.lt
  clear hm hl hk hL
  have hbx := box2 w (U m).toArray (U (flb 32 [])).toArray 23 23 _ rfl
  have r1 : RowB ((w.alloc (.cells (U m).toArray 23)).alloc (.cells (U (flb 32 [])).toArray 23)) w.heap.size 23 m := hbx.1
  clear hbx
  go_enter Tryd.func16, Tryd.ntmps16
  go_wp2_with (refine load_B rfl (.tmp 2) rfl w.heap.size rfl 23 m r1 HM.out ?_)
  clear r1
  generalize hW1 : (w.alloc _).alloc _ = W1
  obtain ⟨_, h1, hb1, hz1⟩ := box2 w (U m).toArray (U (flb 32 [])).toArray 23 23 W1 hW1
  clear hW1
  have R1 := Lib.hid (show RowB W1 (w.heap.size + 1) 23 (flb 32 []) from h1)
  refine (digitsOf_all m W1 HM.out).mono ?_
  rintro e w2 ⟨rfl, hb2⟩
  have hz2 := hb2.size
  have hbw := hb1.trans (hb2.mono (by omega))
  have C2 := Lib.hid (public_all L A cap (dgl m) HLL.out (dgl_len m) (dgl_le m) w2 (HL.out.keep fun i hi => ⟨by omega, hbw.block i hi⟩) (HK.out.keep (hbw.block 0 hlt0)))
  rw [show pubk (rc L (lft (dgl m)) 19) = recF m L from rfl] at C2
  have R2 := Lib.hid (R1.out.keep (hb2.block _ (by omega)))
  have HB2 := Lib.hid hbw
  clear hb1 hb2 hbw h1
  go_wp2_with fail
  refine C2.out.mono ?_
  rintro e w3 ⟨rfl, hb3⟩
  have hr3 := R2.out.keep (hb3.block _ (by omega))
  have hr4 := hr3.setRow (recF m L)
  have HB3 := Lib.hid (HB2.out.trans (hb3.mono (by omega)))
  clear C2 hb3
  go_wp2_with (refine store_B rfl (.tmp 4) (.tmp 13) rfl (w.heap.size + 1) (flb 32 []) (recF m L) rfl rfl 23 hr3 (recF_len _ _) (by simp [flb]) ?_)
  exact bodyPost_ret (res_two rfl _ _ _ _ _ _ rfl rfl hr4 (recF_len _ _)) rfl ⟨rfl, below_setRow HB3.out (by omega) _⟩

set_option maxRecDepth 100000 in
set_option maxHeartbeats 1600000 in
theorem Verify_no (p m : List UInt8) (n cap : Nat) (A : Option Addr) (w : World) (hm : m.length = 32) (hn : n ≠ 19) (hm2 : n ≤ 9223372036854775807) :
    Calls Tryd.prog 23 #[.agg (U p).toArray, .agg (U m).toArray, .slice A n cap] w fun e w' => e = .returned (.bool false) ∧ Below w.heap.size w w' := by
  have HM := Lib.hid hm
  have HN := Lib.hid hn
  have hbx := box2 w (U p).toArray (U m).toArray 23 23 _ rfl
  have r1 : RowB ((w.alloc (.cells (U p).toArray 23)).alloc (.cells (U m).toArray 23)) (w.heap.size + 1) 23 m := hbx.2.1
  have HB := Lib.hid hbx.2.2.1
  have HZ := Lib.hid hbx.2.2.2
  clear hbx hn hm
  go_enter Tryd.func23, Tryd.ntmps23
  go_wp2_with (refine load_B rfl (.tmp 4) rfl (w.heap.size + 1) rfl 23 m r1 HM.out ?_)
  refine (Recover_no m n cap A _ HN.out hm2).mono ?_
  rintro e w2 ⟨rfl, hb2⟩
  have HB2 := Lib.hid (HB.out.trans (hb2.mono (by rw [HZ.out]; omega)))
  have n2 : RowB (w2.alloc (.cells (U (flb 32 [])).toArray 23)) w2.heap.size 23 (flb 32 []) := heap_alloc_new w2 _
  have hz2 := HB2.out.size
  clear hb2 r1 HZ
  go_wp2_with (refine store_B rfl (.tmp 7) (.tmp 13) rfl w2.heap.size (flb 32 []) z32 rfl rfl 23 n2 rfl (by simp [flb]) ?_)
  go_ret
  exact ⟨rfl, below_setRow (HB2.out.alloc hz2 _) hz2 _⟩

set_option maxRecDepth 100000 in
set_option maxHeartbeats 1600000 in
theorem Verify_yes (p m : List UInt8) (L : List (List UInt8)) (A : Option Addr) (cap : Nat) (w : World) (hp : p.length = 32) (hm : m.length = 32) (hL : L.length = 19) (hl : DL w (· < w.heap.size) L A cap) (hk : KR w Kt) :
    Calls Tryd.prog 23 #[.agg (U p).toArray, .agg (U m).toArray, .slice A 19 cap] w fun e w' => e = .returned (.bool (decide (recF m L = p))) ∧ Below w.heap.size w w' := by
  have HP := Lib.hid hp
  have HM := Lib.hid hm
  have hlt0 := hk.lt
  obtain ⟨h0, h1, hb1, hz1⟩ := box2 w (U p).toArray (U m).toArray 23 23 _ rfl
  have r1 : RowB ((w.alloc (.cells (U p).toArray 23)).alloc (.cells (U m).toArray 23)) (w.heap.size + 1) 23 m := h1
  have R0 := Lib.hid (show RowB ((w.alloc (.cells (U p).toArray 23)).alloc (.cells (U m).toArray 23)) w.heap.size 23 p from h0)
  have C := Lib.hid (Recover_yes m L A cap _ hm hL (hl.keep fun i hi => ⟨by omega, hb1.block i hi⟩) (hk.keep (hb1.block 0 hlt0)))
  have HB := Lib.hid hb1
  have HZ := Lib.hid hz1
  have q1 := eq_dig (recF m L) p (recF_len m L) hp
  have q2 := recF_len m L
  have HQ2 := Lib.hid q2
  clear h0 h1 hb1 hz1 hp hm hL hl hk q2
  generalize recF m L = R at *
  go_enter Tryd.func23, Tryd.ntmps23
  go_wp2_with (refine load_B rfl (.tmp 4) rfl (w.heap.size + 1) rfl 23 m r1 HM.out ?_)
  refine C.out.mono ?_
  rintro e w2 ⟨rfl, hb2⟩
  have hsz := hb2.size
  have n2 : RowB (w2.alloc (.cells (U (flb 32 [])).toArray 23)) w2.heap.size 23 (flb 32 []) := heap_alloc_new w2 _
  have hb3 : Below w2.heap.size w2 ((w2.alloc (.cells (U (flb 32 [])).toArray 23)).setRow w2.heap.size (U R).toArray) := below_setRow ((Below.refl _ _).alloc (Nat.le_refl _) _) (Nat.le_refl _) _
  have n3 := n2.setRow R
  have n4 := (R0.out.keep (hb2.block _ (by rw [HZ.out]; omega))).keep (hb3.block _ (by rw [HZ.out] at hsz; omega))
  have HB2 := Lib.hid (HB.out.trans ((hb2.trans (hb3.mono hsz)).mono (by rw [HZ.out]; omega)))
  clear hb2 hb3 r1 hsz
  go_wp2_with (first
    | (refine store_B rfl (.tmp 7) (.tmp 13) rfl w2.heap.size (flb 32 []) R rfl rfl 23 n2 HQ2.out (by simp [flb]) ?_)
    | (refine load_Bw (by kernel_rfl) (.tmp 7) rfl w2.heap.size rfl 23 R n3 HQ2.out ?_)
    | (refine load_Bw (by kernel_rfl) (.tmp 3) rfl w.heap.size rfl 23 p n4 HP.out ?_))
  go_ret
  exact ⟨rfl, HB2.out⟩
end Go.Proofs.YtllkkafajchioaaDoor
