/- Chains: the reference: Key, Digits. -/
import Derived.Test.YtllkkafajchioaaDoorXP
namespace Go.Proofs.YtllkkafajchioaaDoor
open Go.RowKit

theorem range_byt {w : World} {b ofs : Nat} {x : List UInt8} (h : w.rangeAt b ofs (U x)) (hx : x.length = 32) : Byt w (· = b) x (some ⟨b, ofs, none⟩) 32 :=
  ⟨by omega, by simp only [maxLen]; omega, (fun e => by cases e), fun _ => ⟨b, ofs, rfl, rfl, fun i u hu => h i u hu⟩⟩
theorem flat_take (L : List (List UInt8)) (k : Nat) (x : List UInt8) (h : L[k]? = some x) : (L.take (k + 1)).flatten = (L.take k).flatten ++ x := by
  rw [take_one L k x h]
  simp
theorem flat_len32 (L : List (List UInt8)) (hL : ∀ d ∈ L, d.length = 32) : L.flatten.length = 32 * L.length := by
  induction L with
  | nil => rfl
  | cons x L ih =>
    rw [List.flatten_cons, List.length_append, ih (fun d hd => hL d (List.mem_cons_of_mem _ hd)), hL x (List.mem_cons_self ..), List.length_cons]
    omega

set_option maxRecDepth 100000 in
set_option maxHeartbeats 1600000 in
theorem rKey_all (L : List (List UInt8)) (A : Option Addr) (cap : Nat) (w : World) (hn : L.length ≤ 100) (hl : DL w (· < w.heap.size) L A cap) :
    Calls Tryd.prog 32 #[.slice A L.length cap] w fun e w' => e = .returned (.agg (U (pubk L)).toArray) ∧ Below w.heap.size w w' := by
  have HL := Lib.hid hl
  have hcap := hl.1
  have hcm : cap ≤ 9223372036854775807 := hl.2.1
  have HTL := Lib.hid (show ∀ k, (L.take k).flatten.length ≤ 3200 from fun k => by
    rw [flat_len32 _ (fun d hd => hl.2.2.2.1 d (List.mem_of_mem_take hd)), List.length_take]; omega)
  obtain ⟨h1, hb1, hz1⟩ := box1 w (U (flb 32 [])).toArray 23 _ rfl
  have oe := own_empty (w.alloc (.cells (U (flb 32 [])).toArray 23))
  have hb2 : Below (w.heap.size + 1) (w.alloc (.cells (U (flb 32 [])).toArray 23)) ((w.alloc (.cells (U (flb 32 [])).toArray 23)).alloc (.cells #[] 5)) := (Below.refl _ _).alloc (by omega) _
  obtain ⟨W1, hW1⟩ : ∃ W1, w.alloc (.cells (U (flb 32 [])).toArray 23) = W1 := ⟨_, rfl⟩
  rw [hz1] at oe
  rw [hW1] at h1 hb1 hz1 hb2 oe
  have R1 := Lib.hid (show RowB W1 w.heap.size 23 (flb 32 []) from h1)
  have HB1 := Lib.hid hb1
  have OE := Lib.hid oe
  have HB2 := Lib.hid hb2
  have HW1 := Lib.hid hW1
  have HZ1 := Lib.hid hz1
  clear hl h1 hb1 hz1 hb2 oe hW1
  go_enter Tryd.func32, Tryd.ntmps32
  go_wp2_with fail
  generalize hg : w.alloc _ = W1'
  have e9 : W1' = W1 := hg.symm.trans HW1.out
  clear hg
  rw [e9]
  clear e9 W1' HW1
  go_loopw [3, 4] (fun v y wr => ∃ (k : Nat) (A' : Option Addr) (c' : Nat), v = .slice A' (L.take k).flatten.length c' ∧ y = .int .i64 k ∧ k ≤ L.length ∧ Hid (Own wr (w.heap.size + 1) (.slice A' (L.take k).flatten.length c') (L.take k).flatten) ∧ Hid (Below (w.heap.size + 1) W1 wr)) (fun _ y _ => L.length - (intOf y).toNat)
  case atStart => exact ⟨0, some ⟨w.heap.size + 1, 0, none⟩, 0, rfl, rfl, Nat.zero_le _, OE, HB2⟩
  case round =>
    obtain ⟨k, A', c', rfl, rfl, hk, HO, HB⟩ := hrel
    have hz := HB.out.size
    rw [HZ1.out] at hz
    by_cases hlt : k < L.length
    · obtain ⟨x, hx⟩ : ∃ x, L[k]? = some x := ⟨_, List.getElem?_eq_getElem hlt⟩
      have HX := Lib.hid (HL.out.2.2.2.1 x (List.mem_of_getElem? hx))
      obtain ⟨b, ofs, rfl, hS, hc⟩ := (HL.out.keep (w' := wr) (S' := (· < w.heap.size)) fun i hi => ⟨hi, (HB.out.block i (by omega)).trans (HB1.out.block i hi)⟩).2.2.2.2 (by omega)
      have HBY := Lib.hid (range_byt (hc k x hx) HX.out)
      have HS := Lib.hid (flat_take L k x hx)
      have h1 := HTL.out (k + 1)
      rw [HS.out, List.length_append] at h1
      clear hx hc
      generalize (L.take k).flatten = M at *
      go_wp2_with (at_builtin; refine app_byt rfl (.tmp 12) (.tmp 16) rfl (w.heap.size + 1) _ _ _ _ M x rfl (by rw [HX.out]; rfl) HO.out HBY.out (by omega) hz ?_; intro v5 w5 ho5 hg5; have HB5 := Lib.hid (below_own HB.out hg5 HO.out (Nat.le_refl _) hz); obtain ⟨A5, c5, e5⟩ := ho5.slice; subst e5; have HO5 := Lib.hid ho5; clear ho5 hg5)
      go_roundw
      case rel => exact ⟨k + 1, A5, c5, by rw [HS.out, List.length_append], rfl, by omega, Lib.hid (by rw [HS.out]; exact HO5.out), HB5⟩
      case measure => simp [intOf]; omega
    · obtain rfl : k = L.length := by omega
      have HO' := HO.out
      have h1 := HTL.out L.length
      rw [List.take_length] at HO' h1 ⊢
      have HOB := Lib.hid HO'.byt
      obtain ⟨A2, c2, e2, hy⟩ := HOB.out
      injection e2 with e2 _ e3
      subst e2 e3
      have C := Lib.hid (rtagged_all publicT L.flatten A' c' wr (by decide) (by omega) (hy.keep fun i hi => ⟨hi.2, rfl⟩))
      have r1 := R1.out.keep (HB.out.block _ (by omega))
      have HR := Lib.hid r1
      clear HO HO' hy r1 HOB
      generalize hM : L.flatten.length = M at *
      have HM := Lib.hid hM
      clear hM
      go_wp2_with fail
      refine C.out.mono ?_
      rintro e w5 ⟨rfl, hb5⟩
      have r5 := HR.out.keep (hb5.block w.heap.size (by omega))
      have r6 := r5.setRow (pubk L)
      have HB5 := Lib.hid (HB1.out.trans ((HB.out.trans (hb5.mono hz)).mono (by omega)))
      clear hb5 C
      go_wp2_with (refine store_B rfl (.tmp 2) (.tmp 19) rfl w.heap.size (flb 32 []) (pubk L) rfl rfl 23 r5 (pubk_len _) (by simp [flb]) ?_)
      exact bodyPost_ret (res_B rfl _ _ _ _ _ rfl r6 (pubk_len _)) rfl ⟨rfl, below_setRow HB5.out (Nat.le_refl _) _⟩
end Go.Proofs.YtllkkafajchioaaDoor
