/- Chains: the reference: Public, Sign, Recover, Verify, Earlier. -/
import Derived.Test.YtllkkafajchioaaDoorXS
namespace Go.Proofs.YtllkkafajchioaaDoor
open Go.RowKit

theorem enters_First : Enters Tryd.prog 34 := enters_of Tryd.func34 (by kernel_rfl) rfl
theorem enters_Steps : Enters Tryd.prog 31 := enters_of Tryd.func31 (by kernel_rfl) rfl
theorem ev_index_int {o : Oper} {a : Act} {w : World} (x y : Operand) (b ofs len cap K : Nat) (ho : o.op = .indexAddr 29 x y) (hx : a.eval x = .slice (some ⟨b, ofs, none⟩) len cap) (hy : a.eval y = .int .i64 K) (hk : K < len) :
    (execOp a.eval o).run Tryd.prog w = .ok (.value (.pointer (some ⟨b, ofs + K, none⟩))) w := by
  have b1 : (K : Int) < len := by omega
  have b2 : (0 : Int) ≤ K := by omega
  unfold execOp
  simp only [ho, hx, hy]
  go_simp
theorem ev_load_int {o : Oper} {a : Act} {w : World} (x : Operand) (b ofs : Nat) (n : Int) (ho : o.op = .load 3 x) (hx : a.eval x = .pointer (some ⟨b, ofs, none⟩)) (hc : w.cell? ⟨b, ofs, none⟩ = some (.int .i64 n)) :
    (execOp a.eval o).run Tryd.prog w = .ok (.value (.int .i64 n)) w := by
  unfold execOp
  simp only [ho, hx]
  go_simp
/-- the last elements -/
def rp (s : List UInt8) (k : Nat) : List (List UInt8) := (List.range k).map fun i => sn 3 (fst5 s i)
theorem rp_len (s : List UInt8) (k : Nat) : (rp s k).length = k := by simp [rp]
theorem rp_succ (s : List UInt8) (k : Nat) : rp s (k + 1) = rp s k ++ [sn 3 (fst5 s k)] := by simp [rp, List.range_succ]
theorem rp_rc (s : List UInt8) : rp s 19 = rc (fsts s 19) (List.replicate 19 3) 19 := by
  unfold rp rc
  apply List.map_congr_left
  intro i hi
  have hi := List.mem_range.1 hi
  rw [List.getD_eq_getElem?_getD, List.getD_eq_getElem?_getD, List.getElem?_replicate, if_pos hi]
  simp [fsts, hi]
theorem rp_dig (s : List UInt8) (k : Nat) : ∀ d ∈ rp s k, d.length = 32 := by
  intro d hd
  obtain ⟨i, _, rfl⟩ := List.mem_map.1 hd
  exact sn_len _ _ (fst5_len _ _)

set_option maxRecDepth 100000 in
set_option maxHeartbeats 1600000 in
theorem rPublic_all (s : List UInt8) (w : World) (hs : s.length = 32) :
    Calls Tryd.prog 19 #[.agg (U s).toArray] w fun e w' => e = .returned (.agg (U (pubF s)).toArray) ∧ Below w.heap.size w w' := by
  have HS := Lib.hid hs
  clear hs
  obtain ⟨h0, h1, hb1, hz1⟩ := box2 w (U s).toArray (U (flb 32 [])).toArray 23 23 _ rfl
  obtain ⟨W1, hW1⟩ : ∃ W1, (w.alloc (.cells (U s).toArray 23)).alloc (.cells (U (flb 32 [])).toArray 23) = W1 := ⟨_, rfl⟩
  rw [hW1] at h0 h1 hb1 hz1
  have oe := ownD_empty W1
  have hb2 : Below W1.heap.size W1 (W1.alloc (.cells #[] 23)) := (Below.refl _ _).alloc (Nat.le_refl _) _
  rw [hz1] at oe hb2
  have R0 := Lib.hid (show RowB W1 w.heap.size 23 s from h0)
  have R1 := Lib.hid (show RowB W1 (w.heap.size + 1) 23 (flb 32 []) from h1)
  have HB1 := Lib.hid hb1
  have OE := Lib.hid oe
  have HB2 := Lib.hid hb2
  have HW1 := Lib.hid hW1
  have HZ1 := Lib.hid hz1
  clear h0 h1 hb1 hz1 hb2 oe hW1
  go_enter Tryd.func19, Tryd.ntmps19
  go_wp2_with fail
  generalize hg : (w.alloc _).alloc _ = W1'
  have e9 : W1' = W1 := hg.symm.trans HW1.out
  clear hg
  rw [e9]
  clear e9 W1' HW1
  rw [show w.heap.size + 1 + 1 = w.heap.size + 2 from rfl]
  go_loopw [3, 4] (fun v y wr => ∃ (k : Nat) (A : Option Addr) (c : Nat), v = .slice A k c ∧ y = .int .i64 k ∧ k ≤ 19 ∧ Hid (OwnD wr (w.heap.size + 2) (.slice A k c) (rp s k)) ∧ Hid (Below (w.heap.size + 2) W1 wr)) (fun _ y _ => 19 - (intOf y).toNat)
  case atStart => exact ⟨0, _, _, rfl, rfl, by omega, OE, HB2⟩
  case round =>
    obtain ⟨k, A, c, rfl, rfl, hk, HO, HB⟩ := hrel
    have hz := HB.out.size
    rw [HZ1.out] at hz
    by_cases hlt : k < 19
    · have r0 := R0.out.keep (HB.out.block _ (by omega))
      have HL := Lib.hid (rp_len s k)
      have HF := Lib.hid (rp_succ s k)
      have h5 := fst5_len s k
      have H5 := Lib.hid h5
      have H6 := Lib.hid (sn_len 3 _ h5)
      clear h5
      go_wp2_with (refine load_B rfl (.tmp 1) rfl w.heap.size rfl 23 s r0 HS.out ?_)
      refine (rFirst_all s k wr HS.out (by omega)).mono ?_
      rintro e w5 ⟨rfl, hb5⟩
      have HB5 := Lib.hid (HB.out.trans (hb5.mono hz))
      have HO5 := Lib.hid (HO.out.step hb5)
      have hz5 := hb5.size
      clear hb5
      go_wp2_with fail
      refine (rSteps_all (fst5 s k) 3 w5 H5.out (by omega)).mono ?_
      rintro e w6 ⟨rfl, hb6⟩
      have HB6 := Lib.hid (HB5.out.trans (hb6.mono (by omega)))
      have HO6 := Lib.hid (HO5.out.step hb6)
      have hz6 := hb6.size
      have HOA := Lib.hid (HO6.out.alloc (.cells (U (sn 3 (fst5 s k))).toArray 23))
      have HSRC := Lib.hid (show RowB (w6.alloc (.cells (U (sn 3 (fst5 s k))).toArray 23)) w6.heap.size 23 (sn 3 (fst5 s k)) from heap_alloc_new w6 _)
      clear hb6 r0
      generalize sn 3 (fst5 s k) = X at *
      generalize rp s k = L at *
      go_wp2_with (first
        | (refine bs_dig rfl (.tmp 14) rfl X rfl H6.out ?_)
        | (at_builtin; refine app_dig rfl (.tmp 10) (.tmp 15) rfl (w.heap.size + 2) w6.heap.size _ L X rfl rfl HOA.out HSRC.out H6.out (by rw [HL.out]; omega) (by simp; omega) ?_; intro v7 w7 ho7 hg7; obtain ⟨A7, c7, e7⟩ := ho7.slice; rw [List.length_append, HL.out] at e7; subst e7; have HO7 := Lib.hid ho7; have HB7 := Lib.hid (below_ownD (HB6.out.alloc (by omega) _) hg7 HOA.out (Nat.le_refl _) (by simp; omega)); clear ho7 hg7))
      go_roundw
      case rel => exact ⟨k + 1, A7, c7, rfl, rfl, by omega, Lib.hid (by rw [HF.out]; exact HO7.out), HB7⟩
      case measure => simp [intOf]; omega
    · obtain rfl : k = 19 := by omega
      have hl := HO.out.dlw (rp_len s 19)
      have C := rKey_all (rp s 19) A c wr (by rw [rp_len]; omega) hl
      rw [rp_len, show pubk (rp s 19) = pubF s by rw [rp_rc]; rfl] at C
      have CC := Lib.hid C
      have HR := Lib.hid (R1.out.keep (HB.out.block _ (by omega)))
      clear C hl
      go_wp2_with fail
      refine CC.out.mono ?_
      rintro e w5 ⟨rfl, hb5⟩
      have r5 := HR.out.keep (hb5.block (w.heap.size + 1) (by omega))
      have r6 := r5.setRow (pubF s)
      have HB5 := Lib.hid (HB1.out.trans ((HB.out.trans (hb5.mono hz)).mono (by omega)))
      clear hb5 CC
      go_wp2_with (refine store_B rfl (.tmp 2) (.tmp 18) rfl (w.heap.size + 1) (flb 32 []) (pubF s) rfl rfl 23 r5 (pubF_len _) (by simp [flb]) ?_)
      exact bodyPost_ret (res_B rfl _ _ _ _ _ rfl r6 (pubF_len _)) rfl ⟨rfl, below_setRow HB5.out (by omega) _⟩
end Go.Proofs.YtllkkafajchioaaDoor
