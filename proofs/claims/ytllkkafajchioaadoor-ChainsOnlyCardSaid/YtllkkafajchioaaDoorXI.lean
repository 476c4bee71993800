/- Chains: Sign. -/
import Derived.Test.YtllkkafajchioaaDoorXG
import Derived.Test.YtllkkafajchioaaDoorXH
namespace Go.Proofs.YtllkkafajchioaaDoor
open Go.RowKit

theorem enters_firsts : Enters Tryd.prog 33 := enters_of Tryd.func33 (by kernel_rfl) rfl
theorem enters_digitsOf : Enters Tryd.prog 29 := enters_of Tryd.func29 (by kernel_rfl) rfl
theorem enters_reached : Enters Tryd.prog 36 := enters_of Tryd.func36 (by kernel_rfl) rfl
theorem enters_Collect : Enters Tryd.prog 35 := enters_of Tryd.func35 (by kernel_rfl) rfl

/-- the signature -/
def sgn (s m : List UInt8) : List (List UInt8) := rc (fsts s 19) (dgl m) 19
theorem sgn_len (s m : List UInt8) : (sgn s m).length = 19 := rc_len _ _ _
theorem fsts_dig (s : List UInt8) (n : Nat) : ∀ d ∈ fsts s n, d.length = 32 := by
  intro d hd
  obtain ⟨i, _, rfl⟩ := List.mem_map.1 hd
  exact fst5_len _ _
theorem sgn_dig (s m : List UInt8) : ∀ d ∈ sgn s m, d.length = 32 := rc_dig _ _ (fsts_dig s 19) 19 (by rw [fsts_len]; omega)
theorem signed_boxes (A : Option Addr) (c : Nat) (_L : List (List UInt8)) (D : List Nat) (w w7 : World) (h : w7 = (w.alloc (.cells #[.slice A 19 c] 24)).alloc (.cells (NI D).toArray 47)) :
    (w7.cell? ⟨w.heap.size, 0, none⟩ = some (.slice A 19 c) ∧ RowN w7 (w.heap.size + 1) 47 D) ∧ w7.heap.size = w.heap.size + 2 ∧ Below w.heap.size w w7 := by
  obtain ⟨k0, k1, hb, hz⟩ := box2 w #[.slice A 19 c] (NI D).toArray 24 47 w7 h.symm
  exact ⟨⟨cell_of_row w7 w.heap.size 0 _ _ _ k0, k1⟩, hz, hb⟩
theorem OwnD.dlw {w : World} {b n : Nat} {A : Option Addr} {c : Nat} {L : List (List UInt8)} (h : OwnD w b (.slice A n c) L) (_hn : L.length = n) : DL w (· < w.heap.size) L A c := by
  obtain ⟨A', c', e, hd⟩ := h.dl
  injection e with e1 _ e3
  subst e1 e3
  exact hd.keep fun i hi => ⟨hi.2, rfl⟩

set_option maxRecDepth 100000 in
set_option maxHeartbeats 3200000 in
theorem sign_all (s m : List UInt8) (w : World) (hs : s.length = 32) (hm : m.length = 32) (hk : KR w Kt) :
    Calls Tryd.prog 21 #[.agg (U s).toArray, .agg (U m).toArray] w fun e w' => ∃ v, e = .returned v ∧ OwnD w' w.heap.size v (sgn s m) ∧ Below w.heap.size w w' := by
  have HS := Lib.hid hs
  have HM := Lib.hid hm
  have HK := Lib.hid hk
  have hlt0 := hk.lt
  clear hs hm hk
  go_enter Tryd.func21, Tryd.ntmps21
  go_wp2_with fail
  generalize hW1 : (w.alloc _).alloc _ = W1
  obtain ⟨h0, h1, hb1, hz1⟩ := box2 w (U s).toArray (U m).toArray 23 23 W1 hW1
  clear hW1
  have KEEP := Lib.hid (show ∀ ww, Below W1.heap.size W1 ww → RowB ww w.heap.size 23 s ∧ RowB ww (w.heap.size + 1) 23 m ∧ KR ww Kt ∧ Below w.heap.size w ww from fun ww h =>
    ⟨(h.block _ (by omega)).trans h0, (h.block _ (by omega)).trans h1, HK.out.keep ((h.block 0 (by omega)).trans (hb1.block 0 hlt0)), hb1.trans (h.mono (by omega))⟩)
  have STEP := Lib.hid (show ∀ ww w', Below W1.heap.size W1 ww → Below ww.heap.size ww w' → Below W1.heap.size W1 w' from fun ww w' h1 h2 => h1.trans (h2.mono h1.size))
  have hzw : w.heap.size ≤ W1.heap.size := by omega
  have hbx : Below W1.heap.size W1 W1.drew := (Below.refl _ _).drew
  clear h0 h1 hb1 hz1
  refine wp_region_noPanic ?_
  refine wp_region_held_drew (S := fun ww => Below W1.heap.size W1 ww) (by kernel_rfl) hbx (fun hHeld => ?_)
  refine tk_load 0 5 (.tmp 2) w.heap.size 0 s rfl (by kernel_rfl) (by kernel_rfl) (by kernel_rfl) (fun _ _ _ _ h => h) rfl rfl rfl rfl (fun ww h => (KEEP.out ww h).1.range) HS.out hHeld ?_
  simp only [Act.put, List.setIfInBounds_toArray, List.set_cons_zero, List.set_cons_succ]
  refine tk_load 2 7 (.tmp 3) (w.heap.size + 1) 0 m rfl (by kernel_rfl) (by kernel_rfl) (by kernel_rfl) (fun _ _ _ _ h => h) rfl rfl rfl rfl (fun ww h => (KEEP.out ww h).2.1.range) HM.out hHeld ?_
  simp only [Act.put, List.setIfInBounds_toArray, List.set_cons_zero, List.set_cons_succ]
  clear hHeld
  generalize W1.drew = V0 at hbx ⊢
  refine lone 1 (by kernel_rfl) rfl (fun K hK => to_call 33 6 _ _ #[.agg (U s).toArray] _ rfl rfl rfl rfl enters_firsts (firsts_all s V0 HS.out (KEEP.out _ hbx).2.2.1) (fun e w5 h5 => ?_))
  obtain ⟨v5, h51, h52, h53⟩ := h5
  obtain ⟨A, c, rfl⟩ := h52.slice
  rw [fsts_len] at h51 h52
  refine ⟨_, h51, ?_⟩
  have hx5 := STEP.out _ _ hbx h53
  have HO5 := Lib.hid (h52.low hbx.size)
  refine hK _ _ hx5 ?_
  simp only [Act.put, List.setIfInBounds_toArray, List.set_cons_zero, List.set_cons_succ]
  clear hK h52
  refine lone 3 (by kernel_rfl) rfl (fun K3 hK3 => to_call 29 8 _ _ #[.agg (U m).toArray] _ rfl rfl rfl rfl enters_digitsOf (digitsOf_all m w5 HM.out) (fun e w6 h6 => ⟨_, h6.1, ?_⟩))
  have hx6 := STEP.out _ _ hx5 h6.2
  have HO6 := Lib.hid (HO5.out.step h6.2)
  refine hK3 _ _ hx6 ?_
  simp only [Act.put, List.setIfInBounds_toArray, List.set_cons_zero, List.set_cons_succ]
  clear h6 h53 HO5
  refine lone 4 (by kernel_rfl) rfl (fun K4 hK4 => to_call 36 9 _ _ #[.slice A 19 c, .agg (NI (dgl m)).toArray] _ rfl rfl rfl rfl enters_reached (reached_all A 19 c (dgl m) w6) (fun e w7 h7 => ⟨_, h7.1, ?_⟩))
  obtain ⟨B7, hs7, hb7⟩ := signed_boxes A c (fsts s 19) (dgl m) w6 w7 h7.2
  clear h7
  have hx7 := STEP.out _ _ hx6 hb7
  refine hK4 _ _ hx7 ?_
  simp only [Act.put, List.setIfInBounds_toArray, List.set_cons_zero, List.set_cons_succ]
  refine lone 5 (by kernel_rfl) rfl (fun K5 hK5 => to_call 35 10 _ _ #[.func (.func 44) #[] #[.pointer (some ⟨w6.heap.size, 0, none⟩), .pointer (some ⟨w6.heap.size + 1, 0, none⟩)]] _ rfl rfl rfl rfl enters_Collect (collect_all w6.heap.size (w6.heap.size + 1) (fsts s 19) A c (dgl m) (fsts_len s 19) (dgl_len m) (dgl_le m) w7 (by omega) (by omega) B7.1 B7.2 ((HO6.out.step hb7).dlw (fsts_len s 19)) (KEEP.out _ hx7).2.2.1) (fun e w8 h8 => ?_))
  obtain ⟨v8, h81, h82, h83⟩ := h8
  refine ⟨v8, h81, ?_⟩
  have hx8 := STEP.out _ _ hx7 h83
  have hfin := (KEEP.out _ hx8).2.2.2
  have HO8 := Lib.hid (h82.low (show w.heap.size ≤ w7.heap.size by have := hx7.size; omega))
  refine hK5 _ _ hx8 ?_
  simp only [Act.put, List.setIfInBounds_toArray, List.set_cons_zero, List.set_cons_succ]
  refine tk_assign 6 4 (.tmp 10) v8 rfl (by kernel_rfl) (by kernel_rfl) (by kernel_rfl) (fun _ _ _ _ h => h) rfl rfl rfl rfl hx8 ?_
  simp only [Act.put, List.setIfInBounds_toArray, List.set_cons_zero, List.set_cons_succ]
  refine wpAnyH_done (by kernel_rfl) (NoPanic.normal ?_) _
  have HF := Lib.hid hfin
  clear hfin h82 h83 hx8 hx7 hb7 B7
  go_wp2_with fail
  go_ret
  exact ⟨v8, rfl, HO8.out, HF.out⟩
end Go.Proofs.YtllkkafajchioaaDoor
