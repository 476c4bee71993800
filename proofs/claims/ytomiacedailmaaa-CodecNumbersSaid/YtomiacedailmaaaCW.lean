/- Codec: the statements' examples. -/
import Derived.Test.YtomiacedailmaaaCU
import Derived.Lib.ConvBytes
namespace Go.Proofs.Ytomiacedailmaaa
open Go.RowKit

set_option maxHeartbeats 400000 in
theorem rInt_all (n : Int) (w : World) : Calls Try.prog 23 #[.int .i64 n] w fun e w' => e = .returned (.agg #[.int .i64 1, .int .i64 n, .string ⟨#[]⟩, .slice none 0 0]) ∧ Below w.heap.size w w' ∧ w.heap.size < w'.heap.size := by
  go_enter Try.func23, Try.ntmps23
  go_wp2
  exact bodyPost_ret (v := .agg #[.int .i64 1, .int .i64 n, .string ⟨#[]⟩, .slice none 0 0]) (by simp [results, Try.results23, go_sem]) rfl ⟨rfl, (Below.refl _ _).alloc (Nat.le_refl _) _, by simp⟩
set_option maxHeartbeats 400000 in
theorem rText_all (s : ByteArray) (w : World) : Calls Try.prog 24 #[.string s] w fun e w' => e = .returned (.agg #[.int .i64 2, .int .i64 0, .string s, .slice none 0 0]) ∧ Below w.heap.size w w' ∧ w.heap.size < w'.heap.size := by
  go_enter Try.func24, Try.ntmps24
  go_wp2
  exact bodyPost_ret (v := .agg #[.int .i64 2, .int .i64 0, .string s, .slice none 0 0]) (by simp [results, Try.results24, go_sem]) rfl ⟨rfl, (Below.refl _ _).alloc (Nat.le_refl _) _, by simp⟩
set_option maxHeartbeats 400000 in
theorem rList_all (A : Option Addr) (n cap : Nat) (w : World) : Calls Try.prog 22 #[.slice A n cap] w fun e w' => e = .returned (.agg #[.int .i64 3, .int .i64 0, .string ⟨#[]⟩, .slice A n cap]) ∧ Below w.heap.size w w' ∧ w.heap.size < w'.heap.size := by
  go_enter Try.func22, Try.ntmps22
  go_wp2
  exact bodyPost_ret (v := .agg #[.int .i64 3, .int .i64 0, .string ⟨#[]⟩, .slice A n cap]) (by simp [results, Try.results22, go_sem]) rfl ⟨rfl, (Below.refl _ _).alloc (Nat.le_refl _) _, by simp⟩

def vI : V := ⟨1, -3, ⟨#[]⟩, .nil⟩
def vL : V := ⟨3, 0, ⟨#[]⟩, .cons 1 100 ⟨#[]⟩ .nil (.cons 2 0 ⟨#[97, 98]⟩ .nil .nil)⟩
def vT : V := ⟨2, 0, ⟨#[]⟩, .nil⟩
def vE : V := ⟨3, 0, ⟨#[]⟩, .nil⟩
theorem same_TE : vT.same vE = false := by decide +kernel
theorem same_LL : vL.same vL = true := (V.same_iff _ _).2 rfl
def v0 : V := ⟨0, 0, ⟨#[]⟩, .nil⟩
theorem out_vI : vI.out = [1, 5] ∧ vI.chk = 0 ∧ vI.enc.length = 2 ∧ vI.depth = 0 := by decide +kernel
theorem out_vL : vL.out = [3, 2, 1, 200, 1, 2, 2, 97, 98] ∧ vL.chk = 0 ∧ vL.enc.length = 9 ∧ vL.depth = 1 := by decide +kernel
theorem dec_vL : decP [3, 2, 1, 200, 1, 2, 2, 97, 98] = some vL := by kernel_rfl
theorem dec_a : decP [] = none := by kernel_rfl
theorem dec_b : decP [1, 128, 0] = none := by kernel_rfl
theorem dec_c : decP [1, 5, 0] = none := by kernel_rfl
theorem dec_d : decP [2, 3, 97] = none := by kernel_rfl
theorem chk_v0 : v0.chk = 1 ∧ v0.depth = 0 := by decide +kernel

/-- an own slice of bytes, read -/
theorem Own.byt {w : World} {b : Nat} {v : Value} {l : List UInt8} (h : Own w b v l) : ∃ A cap, v = .slice A l.length cap ∧ Byt w (fun i => b ≤ i ∧ i < w.heap.size) l A cap := by
  have hcs : ∀ g, v.ownBlock = some g → ∀ j u, (U l)[j]? = some u → w.cell? ((⟨g, 0, none⟩ : Addr).add j) = some u := fun g hg => World.ownsRow.cells h hg
  rcases h.2 with ⟨rfl, h0⟩ | ⟨g, cap, cur, rfl, hb, hh, h1, h2, _⟩
  · exact ⟨none, 0, by rw [h0], by omega, Nat.zero_le _, fun hp => by omega⟩
  · refine ⟨some ⟨g, 0, none⟩, cap, rfl, h1, h2, fun _ => ⟨g, 0, rfl, ⟨hb, (Array.getElem?_eq_some_iff.1 hh).1⟩, fun i u hu => ?_⟩⟩
    have := hcs g rfl i u hu
    rwa [Go.WideShapes.add_plain] at this
theorem Byt.toB {w : World} {S : Nat → Prop} {l : List UInt8} {A : Option Addr} {cap B : Nat} (h : Byt w S l A cap) (hS : ∀ i, S i → i < B) : Byt w (· < B) l A cap := h.keep fun i hi => ⟨hS i hi, rfl⟩

theorem byt_conv (w : World) (s : ByteArray) (hs : s.size ≤ maxLen) : Byt (Lib.bytesWorld w 5 s) (· < w.heap.size + 1) s.data.toList (some ⟨w.heap.size, 0, none⟩) (grownCap w s.size 0 5) := by
  have hl : s.data.toList.length = s.size := by simp
  refine ⟨by rw [hl]; exact grownCap_ge _ _ _ _, grownCap_le_maxLen _ _ _ _ hs, fun _ => ⟨w.heap.size, 0, rfl, Nat.lt_succ_self _, fun i u hu => ?_⟩⟩
  have hi : i < s.size := by
    by_cases h : i < s.size
    · exact h
    · rw [List.getElem?_eq_none (by rw [U_length, hl]; omega)] at hu; cases hu
  rw [Nat.zero_add, Lib.bytesWorld_cell _ _ _ _ hi, ← hu, U_at (by rw [hl]; exact hi)]
  simp [List.getD, hi]
theorem below_conv (w : World) (s : ByteArray) : Below w.heap.size w (Lib.bytesWorld w 5 s) := by
  refine ⟨rfl, rfl, rfl, by rw [Lib.bytesWorld_size]; omega, fun k hk => Lib.bytesWorld_at_old _ _ _ _ hk⟩
theorem dec_strs : ∀ s ∈ ([⟨#[]⟩, ⟨#[1, 128, 0]⟩, ⟨#[1, 5, 0]⟩, ⟨#[2, 3, 97]⟩] : List ByteArray), decP s.data.toList = none ∧ s.data.toList.length ≤ 3 := by
  intro s hs
  simp only [List.mem_cons, List.not_mem_nil, or_false] at hs
  rcases hs with rfl | rfl | rfl | rfl
  · exact ⟨dec_a, by decide⟩
  · exact ⟨dec_b, by decide⟩
  · exact ⟨dec_c, by decide⟩
  · exact ⟨dec_d, by decide⟩
def strs : List ByteArray := [⟨#[]⟩, ⟨#[1, 128, 0]⟩, ⟨#[1, 5, 0]⟩, ⟨#[2, 3, 97]⟩]

set_option maxRecDepth 100000 in
set_option maxHeartbeats 3200000 in
theorem sane_all (w : World) : Calls Try.prog 10 #[] w fun e w' => e = .returned (.bool true) ∧ Below w.heap.size w w' := by
  go_enter Try.func10, Try.ntmps10
  go_wp2_with fail
  refine (rInt_all _ _).mono ?_
  rintro e w1 ⟨rfl, hb1, hz1⟩
  go_wp2_with fail
  refine (encode_all vI w1.heap.size none 0 w1 (rdv_leaf ⟨by decide, by decide, by decide, by decide, Nat.zero_le _⟩) (Nat.le_refl _) (by rw [out_vI.2.2.2]; omega) (by rw [out_vI.2.2.1]; omega)).mono ?_
  rintro e w2 ⟨a, rfl, hoa, hb2⟩
  rw [out_vI.2.1]
  rw [out_vI.1] at hoa
  obtain ⟨Aa, capa, rfl, hya⟩ := hoa.byt
  have HA := Lib.hid (hya.toB (B := w2.heap.size) fun i hi => hi.2)
  have hbw2 : Below w.heap.size w w2 := hb1.trans (hb2.mono (by omega))
  have hz2 := hb2.size
  have hz2w : w.heap.size ≤ w2.heap.size := by omega
  clear hoa hya hb1 hb2 hz1 hz2
  go_wp2_with fail
  refine (rInt_all _ _).mono ?_
  rintro e w3 ⟨rfl, hb3, hz3⟩
  go_wp2_with fail
  refine (rText_all _ _).mono ?_
  rintro e w4 ⟨rfl, hb4, hz4⟩
  have hb24 : Below w2.heap.size w2 w4 := hb3.trans (hb4.mono (by omega))
  have hz24 : w2.heap.size ≤ w4.heap.size := by omega
  clear hb3 hb4 hz3 hz4
  go_wp2_with fail
  obtain ⟨W5, hW5⟩ : ∃ W5, W5 = w4.alloc (.cells #[.int .i64 1, .int .i64 100, .string ⟨#[]⟩, .slice none 0 0, .int .i64 2, .int .i64 0, .string ⟨#[97, 98]⟩, .slice none 0 0] 24) := ⟨_, rfl⟩
  rw [← hW5]
  have h5 : W5.heap[w4.heap.size]? = some (.cells #[.int .i64 1, .int .i64 100, .string ⟨#[]⟩, .slice none 0 0, .int .i64 2, .int .i64 0, .string ⟨#[97, 98]⟩, .slice none 0 0] 24 (0, 0)) := by rw [hW5]; exact heap_alloc_new w4 _
  have hz5 : W5.heap.size = w4.heap.size + 1 := by rw [hW5]; simp
  have hz5a : w4.heap.size + 1 ≤ W5.heap.size := by omega
  have hb25 : Below w2.heap.size w2 W5 := by rw [hW5]; exact hb24.alloc hz24 _
  clear hW5 hb24 hz5
  refine (rList_all _ _ _ _).mono ?_
  rintro e w6 ⟨rfl, hb6, hz6⟩
  have h6 := (hb6.block _ (by omega)).trans h5
  have hb26 : Below w2.heap.size w2 w6 := hb25.trans (hb6.mono (by omega))
  have hvL : RdV w6 (· < w6.heap.size) vL (some ⟨w4.heap.size, 0, none⟩) 2 := by
    have c : ∀ i, w6.cell? ⟨w4.heap.size, i, none⟩ = _ := fun i => cell_of_row _ _ _ _ _ _ h6
    refine ⟨⟨by decide, by decide, by decide, by decide, Nat.zero_le _⟩, Nat.le_refl _, by decide, fun _ => ⟨w4.heap.size, 0, rfl, (by show w4.heap.size < _; omega), ?_⟩⟩
    refine ⟨⟨by decide, by decide, by decide, by decide, Nat.zero_le _⟩, c 0, c 1, c 2, ⟨none, 0, c 3, Nat.le_refl _, Nat.zero_le _, fun h => absurd h (by decide)⟩, ?_⟩
    refine ⟨⟨by decide, by decide, by decide, by decide, by decide⟩, c 4, c 5, c 6, ⟨none, 0, c 7, Nat.le_refl _, Nat.zero_le _, fun h => absurd h (by decide)⟩, trivial⟩
  have HVL := Lib.hid hvL
  have hz26 : w2.heap.size < w6.heap.size := by omega
  clear hb25 hb6 h5 h6 hvL hz5a hz6
  have hvv : ∀ (ww : World), Calls Try.prog 12 #[vL.val (some ⟨w4.heap.size, 0, none⟩) 2] ww = Calls Try.prog 12 #[.agg #[.int .i64 3, .int .i64 0, .string ⟨#[]⟩, .slice (some ⟨w4.heap.size, 0, none⟩) 2 2]] ww := fun _ => rfl
  clear hvv
  go_wp2_with fail
  obtain ⟨W7, hW7⟩ : ∃ W7, W7 = w6.alloc (.cells #[.int .i64 3, .int .i64 0, .string ⟨#[]⟩, .slice (some ⟨w4.heap.size, 0, none⟩) 2 2] 24) := ⟨_, rfl⟩
  rw [← hW7]
  have h7 : W7.heap[w6.heap.size]? = some (.cells #[.int .i64 3, .int .i64 0, .string ⟨#[]⟩, .slice (some ⟨w4.heap.size, 0, none⟩) 2 2] 24 (0, 0)) := by rw [hW7]; exact heap_alloc_new w6 _
  have hz7 : w6.heap.size + 1 ≤ W7.heap.size := by rw [hW7]; simp
  have hb27 : Below w6.heap.size w6 W7 := by rw [hW7]; exact (Below.refl _ _).alloc (Nat.le_refl _) _
  clear hW7
  have hb0 : Below w.heap.size w w6 := hbw2.trans (hb26.mono hz2w)
  have HA6 := Lib.hid (HA.out.keep (S' := (· < w2.heap.size)) fun i hi => ⟨hi, hb26.block i hi⟩)
  clear hbw2 hb26 HA
  refine (encode_all vL w6.heap.size (some ⟨w4.heap.size, 0, none⟩) 2 W7 (HVL.out.below hb27) (by omega) (by rw [out_vL.2.2.2]; omega) (by rw [out_vL.2.2.1]; omega)).mono ?_
  rintro e w8 ⟨bb, rfl, hob, hb8⟩
  rw [out_vL.2.1]
  rw [out_vL.1] at hob
  obtain ⟨Ab, capb, rfl, hyb⟩ := hob.byt
  have HB8 := Lib.hid (hyb.toB (B := w8.heap.size) fun i hi => hi.2)
  have h8 := (hb8.block _ (by omega)).trans h7
  have hb68 : Below w6.heap.size w6 w8 := hb27.trans (hb8.mono (by omega))
  have hz8 : w6.heap.size + 1 ≤ w8.heap.size := Nat.le_trans hz7 hb8.size
  clear hob hyb hb8 h7 hz7 hb27
  go_wp2_with fail
  refine (decode_all w8.heap.size [3, 2, 1, 200, 1, 2, 2, 97, 98] Ab capb w8 HB8.out (Nat.le_refl _) (by simp)).mono ?_
  rw [dec_vL]
  rintro e w9 ⟨hb9, A9, cap9, rfl, hr9⟩
  have hz9 : w8.heap.size ≤ w9.heap.size := hb9.size
  have h9 := (hb9.block _ (by omega)).trans h8
  have hb69 : Below w6.heap.size w6 w9 := hb68.trans (hb9.mono (by omega))
  have HR9 := Lib.hid (hr9.keep (S' := (· < w9.heap.size)) fun i hi => ⟨hi.2, rfl⟩)
  have HB9 := Lib.hid (HB8.out.keep (S' := (· < w8.heap.size)) fun i hi => ⟨hi, hb9.block i hi⟩)
  have kk : ∀ (o : Obj) i, (w9.alloc o).cell? ⟨w6.heap.size, i, none⟩ = (#[Value.int .i64 3, .int .i64 0, .string ⟨#[]⟩, .slice (some ⟨w4.heap.size, 0, none⟩) 2 2] : Array Value)[i]? := fun o i => by
    rw [World.cell?_alloc_past _ _ _ (by show w6.heap.size < _; omega), cell_of_row _ _ _ _ _ _ h9]
  have k0 : ∀ (o : Obj), (w9.alloc o).cell? ⟨w6.heap.size, 0, none⟩ = some (.int .i64 3) := fun o => kk o 0
  have k1 : ∀ (o : Obj), (w9.alloc o).cell? ⟨w6.heap.size, 1, none⟩ = some (.int .i64 0) := fun o => kk o 1
  have k2 : ∀ (o : Obj), (w9.alloc o).cell? ⟨w6.heap.size, 2, none⟩ = some (.string ⟨#[]⟩) := fun o => kk o 2
  have k3 : ∀ (o : Obj), (w9.alloc o).cell? ⟨w6.heap.size, 3, none⟩ = some (.slice (some ⟨w4.heap.size, 0, none⟩) 2 2) := fun o => kk o 3
  clear hb9 hr9 HB8 hb68 h8 kk
  go_wp2_with fail
  obtain ⟨W9, hW9⟩ : ∃ W9, W9 = w9.alloc (.cells #[.int .i64 vL.k, .int .i64 vL.n, .string vL.s, .slice A9 vL.l.len cap9] 24) := ⟨_, rfl⟩
  rw [← hW9]
  have h9b : W9.heap[w9.heap.size]? = some (.cells #[.int .i64 vL.k, .int .i64 vL.n, .string vL.s, .slice A9 vL.l.len cap9] 24 (0, 0)) := by rw [hW9]; exact heap_alloc_new w9 _
  have hz9b : w9.heap.size + 1 ≤ W9.heap.size := by rw [hW9]; simp
  have hb99 : Below w9.heap.size w9 W9 := by rw [hW9]; exact (Below.refl _ _).alloc (Nat.le_refl _) _
  clear hW9 k0 k1 k2 k3
  refine (size_all vL w6.heap.size (some ⟨w4.heap.size, 0, none⟩) 2 W9 (HVL.out.below (hb69.trans (hb99.mono (by omega)))) (by omega) (by rw [out_vL.2.2.2]; omega) (by rw [out_vL.2.2.1]; omega)).mono ?_
  rw [out_vL.1, out_vL.2.1]
  rintro e w10 ⟨rfl, hb10⟩
  have hz10 : W9.heap.size ≤ w10.heap.size := hb10.size
  have h10 := (hb10.block _ (by omega)).trans ((hb99.block _ (by omega)).trans h9)
  have h10b := (hb10.block _ (by omega)).trans h9b
  have hb910 : Below w9.heap.size w9 w10 := hb99.trans (hb10.mono (by omega))
  have hb610 : Below w6.heap.size w6 w10 := hb69.trans (hb910.mono (by omega))
  have hca := conv_str (n := 2) (HA6.out.keep (S' := (· < w2.heap.size)) fun i hi => ⟨hi, hb610.block i (by omega)⟩) rfl
  have hcb := conv_str (n := 9) (HB9.out.keep (S' := (· < w8.heap.size)) fun i hi => ⟨hi, hb910.block i (by omega)⟩) rfl
  have HR10 := Lib.hid (HR9.out.keep (S' := (· < w10.heap.size)) fun i hi => ⟨by omega, hb910.block i hi⟩)
  have HL10 := Lib.hid (HVL.out.keep (S' := (· < w10.heap.size)) fun i hi => ⟨by omega, hb610.block i hi⟩)
  have k0 : w10.cell? ⟨w6.heap.size, 0, none⟩ = some (.int .i64 3) := by rw [cell_of_row _ _ _ _ _ _ h10]; rfl
  have k1 : w10.cell? ⟨w6.heap.size, 1, none⟩ = some (.int .i64 0) := by rw [cell_of_row _ _ _ _ _ _ h10]; rfl
  have k2 : w10.cell? ⟨w6.heap.size, 2, none⟩ = some (.string ⟨#[]⟩) := by rw [cell_of_row _ _ _ _ _ _ h10]; rfl
  have k3 : w10.cell? ⟨w6.heap.size, 3, none⟩ = some (.slice (some ⟨w4.heap.size, 0, none⟩) 2 2) := by rw [cell_of_row _ _ _ _ _ _ h10]; rfl
  have j0 : w10.cell? ⟨w9.heap.size, 0, none⟩ = some (.int .i64 vL.k) := by rw [cell_of_row _ _ _ _ _ _ h10b]; rfl
  have j1 : w10.cell? ⟨w9.heap.size, 1, none⟩ = some (.int .i64 vL.n) := by rw [cell_of_row _ _ _ _ _ _ h10b]; rfl
  have j2 : w10.cell? ⟨w9.heap.size, 2, none⟩ = some (.string vL.s) := by rw [cell_of_row _ _ _ _ _ _ h10b]; rfl
  have j3 : w10.cell? ⟨w9.heap.size, 3, none⟩ = some (.slice A9 vL.l.len cap9) := by rw [cell_of_row _ _ _ _ _ _ h10b]; rfl
  have hbW : Below w.heap.size w w10 := hb0.trans (hb610.mono (by omega))
  clear hb0 hb69 hb99 hb10 hb910 hb610 h9 h9b h10 h10b HVL HR9 HB9 HA6
  go_wp2_with fail
  refine (same_all vL vL w10.heap.size (some ⟨w4.heap.size, 0, none⟩) A9 2 cap9 w10 HL10.out HR10.out (Nat.le_refl _)).mono ?_
  rw [same_LL]
  rintro e w11 ⟨rfl, hb11⟩
  have hbW1 : Below w.heap.size w w11 := hbW.trans (hb11.mono hbW.size)
  clear hbW hb11 hca hcb k0 k1 k2 k3 j0 j1 j2 j3 HR10 HL10
  go_wp2_with fail
  refine (rText_all _ _).mono ?_
  rintro e w12 ⟨rfl, hb12, _⟩
  have hbW2 : Below w.heap.size w w12 := hbW1.trans (hb12.mono hbW1.size)
  clear hbW1 hb12
  go_wp2_with fail
  refine (rList_all _ _ _ _).mono ?_
  rintro e w13 ⟨rfl, hb13, _⟩
  have hbW3 : Below w.heap.size w w13 := hbW2.trans (hb13.mono hbW2.size)
  clear hbW2 hb13
  go_wp2_with fail
  refine (same_all vT vE w13.heap.size none none 0 0 w13 (rdv_leaf ⟨by decide, by decide, by decide, by decide, Nat.zero_le _⟩) (rdv_leaf ⟨by decide, by decide, by decide, by decide, Nat.zero_le _⟩) (Nat.le_refl _)).mono ?_
  rw [same_TE]
  rintro e w14 ⟨rfl, hb14⟩
  have hbW4 : Below w.heap.size w w14 := hbW3.trans (hb14.mono hbW3.size)
  have hzW4 := hbW4.size
  clear hbW3 hb14
  go_wp2_with fail
  have hconv := fun (w : World) (s : ByteArray) => Lib.run_convert_string_bytes (P := Try.prog) w 9 27 5 s Try.underlying9 Try.underlying27 Try.underlying5
  go_loopw [79] (fun i wr => ∃ k : Nat, k ≤ 4 ∧ i = .int .i64 k ∧ Below (w14.heap.size + 1) (w14.alloc (.cells #[.string ⟨#[]⟩, .string ⟨#[1, 128, 0]⟩, .string ⟨#[1, 5, 0]⟩, .string ⟨#[2, 3, 97]⟩] 9)) wr) (fun i _ => 4 - (intOf i).toNat)
  case atStart => exact ⟨0, by omega, rfl, Below.refl _ _⟩
  case round =>
    obtain ⟨k, hk, rfl, hb⟩ := hrel
    have hbW : Below w.heap.size w wr := hbW4.trans ((below_box hb).mono hzW4)
    have hbox : ∀ i, wr.cell? ⟨w14.heap.size, i, none⟩ = _ := fun i => box_kept hb i
    have HB := Lib.hid hb
    clear hb
    by_cases hlt : k < 4
    · obtain ⟨s, hs, hc⟩ : ∃ s, s ∈ ([⟨#[]⟩, ⟨#[1, 128, 0]⟩, ⟨#[1, 5, 0]⟩, ⟨#[2, 3, 97]⟩] : List ByteArray) ∧ wr.cell? ⟨w14.heap.size, k, none⟩ = some (.string s) := by
        have h4 : k = 0 ∨ k = 1 ∨ k = 2 ∨ k = 3 := by omega
        rcases h4 with rfl | rfl | rfl | rfl
        · exact ⟨_, by simp, hbox 0⟩
        · exact ⟨_, by simp, hbox 1⟩
        · exact ⟨_, by simp, hbox 2⟩
        · exact ⟨_, by simp, hbox 3⟩
      obtain ⟨hd, hl3⟩ := dec_strs s hs
      have hl : s.data.toList.length = s.size := by simp
      have hsz : s.size ≤ 3 := by omega
      have D := Lib.hid (decode_all (wr.heap.size + 1) s.data.toList _ _ _ (byt_conv wr s (by simp only [maxLen]; omega)) (by rw [Lib.bytesWorld_size]; exact Nat.le_refl _) (by omega))
      rw [hd, hl] at D
      clear hd hs hl hl3 hbox
      go_wp2_with fail
      refine D.out.mono ?_
      rintro e w' ⟨hb2, rfl⟩
      have hb3 : Below wr.heap.size wr w' := (below_conv wr s).trans (hb2.mono (by rw [Lib.bytesWorld_size]; omega))
      have HB2 := Lib.hid (HB.out.trans (hb3.mono (by have := HB.out.size; simpa using this)))
      have hzw := HB2.out.size
      clear hb2 hb3 hc
      go_wp2
      go_roundw
      case rel => exact ⟨k + 1, by omega, by go_num, HB2.out.alloc (by simpa using hzw) _⟩
      case measure => simp [intOf]; omega
    · obtain rfl : k = 4 := by omega
      clear hbox hconv
      have C := Lib.hid (check_all v0 wr.heap.size none 0 wr (rdv_leaf ⟨by decide, by decide, by decide, by decide, Nat.zero_le _⟩) (Nat.le_refl _) (by rw [chk_v0.2]; omega))
      rw [chk_v0.1] at C
      go_wp2_with fail
      refine C.out.mono ?_
      rintro e w' ⟨rfl, hb2⟩
      have hbF : Below w.heap.size w w' := hbW.trans (hb2.mono hbW.size)
      clear hb2 hbW
      go_wp2
      go_ret
      exact ⟨rfl, hbF⟩
end Go.Proofs.Ytomiacedailmaaa
