/- Chains: Grow, Concat of bytes; tagged. -/
import Derived.Test.YtllkkafajchioaaDoorXA
import Derived.Lib.AppendZerosOnto
import Derived.Laws.OwnMore
namespace Go.Proofs.YtllkkafajchioaaDoor
open Go.RowKit

set_option maxRecDepth 100000 in
set_option maxHeartbeats 3200000 in
theorem grow_all (n : Nat) (w : World) (hn : n ≤ 10000000) :
    Calls Tryd.prog 55 #[.slice none 0 0, .int .i64 n] w fun e w' => ∃ v, e = .returned v ∧ Own w' w.heap.size v [] ∧ Below w.heap.size w w' := by
  obtain ⟨i0, hi, hz0, hz1, hz2⟩ := info_parts info_u8
  by_cases h0 : n = 0
  · subst h0
    go_enter Tryd.func55, Tryd.ntmps55
    go_wp2_with fail
    go_ret
    exact ⟨_, rfl, Own.nil _ _, Below.refl _ _⟩
  · have hrun : ∀ ty, (Builtin.append_ #[41, 3] ty #[.slice none 0 0, .int .i64 n]).run Tryd.prog w = .ok (.slice (some ⟨w.heap.size, 0, none⟩) n (grownCap w n 0 5))
        (w.drew.alloc (.cells (#[] ++ Builtin.zeroCells #[.int .u8 0] n ++ Builtin.zeroCells #[.int .u8 0] (grownCap w n 0 5 - n)) 5)) := fun ty => by
      have h := Lib.run_append_grow_zeros w 41 3 ty 5 i0 _ .i64 .i64 Tryd.underlying41 Tryd.underlying3 hi hz0 none 0 0 [] (run_firstCells_none w.drew i0.size 0 0 0) n (by omega) (by omega) (by omega) (by omega) (by rw [hz2]; omega) (by rw [Nat.zero_add]; exact growslice_fits (by omega) (by rw [hz2]; omega))
      simp only [Nat.zero_add] at h
      exact h
    have hG := grownCap_ge w n 0 5
    have hG2 := grownCap_le_maxLen w n 0 5 (by unfold maxLen; omega)
    generalize grownCap w n 0 5 = G at hrun hG hG2
    have hzc : ∀ m, (Builtin.zeroCells #[.int .u8 0] m).size = m * 1 := fun m => by
      simp [Builtin.zeroCells]
    obtain ⟨cs, hcs⟩ : ∃ cs : Array Value, cs = (#[] ++ Builtin.zeroCells #[.int .u8 0] n ++ Builtin.zeroCells #[.int .u8 0] (G - n)) := ⟨_, rfl⟩
    have hcz : cs.size = G * 1 := by rw [hcs]; simp [hzc]; omega
    rw [← hcs] at hrun
    have HCZ := Lib.hid hcz
    have hGm : G ≤ 9223372036854775807 := hG2
    clear hcz hcs hzc hi hz0 hz1 hz2
    go_enter Tryd.func55, Tryd.ntmps55
    go_wp2_with (at_builtin; refine Lib.wpList_append_run _ rfl _ _ _ _ rfl _ _ rfl rfl _ _ (hrun _) ?_)
    go_ret
    exact ⟨_, rfl, ⟨by simp [U], .inr ⟨w.heap.size, G, cs, rfl, Nat.le_refl _, heap_alloc_new w.drew _, Nat.zero_le _, hG2, HCZ.out, by simp [U]⟩⟩, (Below.refl _ _).drew.alloc (Nat.le_refl _) _⟩

abbrev Pt := Option Addr × Nat × List UInt8
def Parts (w : World) (S : Nat → Prop) (g : Nat) (PS : List Pt) : Prop :=
  ∀ (j : Nat) x, PS[j]? = some x → w.cell? ⟨g, j, none⟩ = some (.slice x.1 x.2.2.length x.2.1) ∧ Byt w S x.2.2 x.1 x.2.1
theorem Parts.keep {w w' : World} {S S' : Nat → Prop} {g : Nat} {PS : List Pt} (h : Parts w S g PS) (hg : w'.heap[g]? = w.heap[g]?) (hs : ∀ i, S i → S' i ∧ w'.heap[i]? = w.heap[i]?) : Parts w' S' g PS := fun j x hx => by
  obtain ⟨h1, h2⟩ := h j x hx
  exact ⟨(World.cell?_of_block hg).trans h1, h2.keep hs⟩
def tot (PS : List Pt) : Nat := (PS.map fun x => x.2.2.length).sum
def cat (PS : List Pt) : List UInt8 := PS.flatMap (·.2.2)
theorem cat_len (PS : List Pt) : (cat PS).length = tot PS := by
  unfold cat tot
  rw [List.length_flatMap]
theorem take_one {α : Type} (L : List α) (k : Nat) (x : α) (h : L[k]? = some x) : L.take (k + 1) = L.take k ++ [x] := by
  obtain ⟨hk, e⟩ := List.getElem?_eq_some_iff.1 h
  rw [List.take_succ_eq_append_getElem hk, e]
theorem tot_app (P Q : List Pt) : tot (P ++ Q) = tot P + tot Q := by simp [tot]
theorem cat_app (P Q : List Pt) : cat (P ++ Q) = cat P ++ cat Q := by simp [cat]
theorem tot_le (PS : List Pt) (k : Nat) : tot (PS.take k) ≤ tot PS := by
  have : tot PS = tot (PS.take k) + tot (PS.drop k) := by rw [← tot_app, List.take_append_drop]
  omega

set_option maxRecDepth 100000 in
set_option maxHeartbeats 3200000 in
theorem concat_all (PS : List Pt) (g cap : Nat) (w : World) (hp : Parts w (· < w.heap.size) g PS) (hg : g < w.heap.size) (_hcap : PS.length ≤ cap) (_hcap2 : cap ≤ 9223372036854775807) (hn : PS.length ≤ 100) (ht : tot PS ≤ 100000) :
    Calls Tryd.prog 50 #[.slice (some ⟨g, 0, none⟩) PS.length cap] w fun e w' => ∃ v, e = .returned v ∧ Own w' w.heap.size v (cat PS) ∧ Below w.heap.size w w' := by
  have HP := Lib.hid hp
  clear hp
  have HT := Lib.hid (tot_le PS)
  go_enter Tryd.func50, Tryd.ntmps50
  go_wp2_with fail
  go_loop [3, 11] (fun s x => ∃ k : Nat, k ≤ PS.length ∧ s = .int .i64 (tot (PS.take k) : Nat) ∧ x = .int .i64 k) (fun _ x => PS.length - (intOf x).toNat)
  case atStart => exact ⟨0, Nat.zero_le _, rfl, rfl⟩
  case round =>
    obtain ⟨k, hk, rfl, rfl⟩ := hrel
    have hle := HT.out k
    by_cases hlt : k < PS.length
    · obtain ⟨x, hx⟩ : ∃ x, PS[k]? = some x := ⟨_, List.getElem?_eq_getElem hlt⟩
      obtain ⟨hc, hr⟩ := HP.out k x hx
      have HS := Lib.hid (show tot (PS.take (k + 1)) = tot (PS.take k) + x.2.2.length by rw [take_one PS k x hx, tot_app]; simp [tot])
      have hle2 := HT.out (k + 1)
      have hsum : tot (PS.take k) + x.2.2.length ≤ 10000000 := by have := HS.out; omega
      clear hx hr hle2
      generalize tot (PS.take k) = tk at *
      generalize x.2.2.length = m at *
      go_wp2_with fail
      go_round
      case rel => exact ⟨k + 1, by omega, by rw [HS.out]; go_num, by go_num⟩
      case measure => simp [intOf]; omega
    · obtain rfl : k = PS.length := by omega
      have HTK := Lib.hid (show tot (PS.take PS.length) = tot PS by rw [List.take_length])
      rw [HTK.out]
      clear hle
      have CG := Lib.hid (grow_all (tot PS) w (by omega))
      have HCL := Lib.hid (show ∀ k, (cat (PS.take k)).length ≤ 100000 from fun k => by rw [cat_len]; have := HT.out k; omega)
      generalize tot PS = T at *
      go_wp2_with fail
      refine CG.out.mono ?_
      rintro e w1 ⟨v, rfl, ho, hb1⟩
      obtain ⟨A1, c1, rfl⟩ := ho.slice
      have HO1 := Lib.hid ho
      have HB1 := Lib.hid hb1
      clear ho hb1 CG
      go_wp2_with fail
      go_loopw [6, 27] (fun v x wr => ∃ (k : Nat) (A' : Option Addr) (c' : Nat), v = .slice A' (cat (PS.take k)).length c' ∧ x = .int .i64 k ∧ k ≤ PS.length ∧ Hid (Own wr w.heap.size (.slice A' (cat (PS.take k)).length c') (cat (PS.take k))) ∧ Below w.heap.size w wr) (fun _ x _ => PS.length - (intOf x).toNat)
      case atStart => exact ⟨0, A1, c1, rfl, rfl, Nat.zero_le _, Lib.hid HO1.out, HB1.out⟩
      case round =>
        obtain ⟨k, A', c', rfl, rfl, hk, HO, hb⟩ := hrel
        have HB := Lib.hid hb
        have hz := hb.size
        by_cases hlt : k < PS.length
        · obtain ⟨⟨Ax, cx, Px⟩, hx⟩ : ∃ x, PS[k]? = some x := ⟨_, List.getElem?_eq_getElem hlt⟩
          obtain ⟨hc, hr⟩ := (HP.out.keep (S' := (· < w.heap.size)) (hb.block g hg) (fun i hi => ⟨hi, hb.block i hi⟩)) k _ hx
          simp only at hc hr
          have HR := Lib.hid hr
          have HS := Lib.hid (show cat (PS.take (k + 1)) = cat (PS.take k) ++ Px by rw [take_one PS k _ hx, cat_app]; simp [cat])
          have h1 := HCL.out (k + 1)
          rw [HS.out, List.length_append] at h1
          generalize cat (PS.take k) = M at *
          clear hb hx hr
          go_wp2_with (at_builtin; refine app_byt rfl (.tmp 31) (.tmp 32) rfl w.heap.size _ _ Ax cx M Px rfl rfl HO.out HR.out (by omega) hz ?_; intro v5 w5 ho5 hg5; have HB5 := Lib.hid (below_own HB.out hg5 HO.out (Nat.le_refl _) hz); obtain ⟨A5, c5, e5⟩ := ho5.slice; subst e5; have HO5 := Lib.hid ho5; clear ho5 hg5)
          go_roundw
          case rel => exact ⟨k + 1, A5, c5, by rw [HS.out, List.length_append], by go_num, by omega, Lib.hid (by rw [HS.out]; exact HO5.out), HB5.out⟩
          case measure => simp [intOf]; omega
        · obtain rfl : k = PS.length := by omega
          have HO' := HO.out
          rw [List.take_length] at HO' ⊢
          have HO2 := Lib.hid HO'
          clear HO' hb HO
          go_wp2_with fail
          go_ret
          exact ⟨_, rfl, HO2.out, HB.out⟩

set_option maxRecDepth 100000 in
set_option maxHeartbeats 1600000 in
/-- the hash of parts under a tag -/
theorem ctag_all (s : ByteArray) (PS : List Pt) (g cap : Nat) (w : World) (hs : s.size ≤ 1000) (hp : Parts w (· < w.heap.size) g PS) (hg : g < w.heap.size) (hcap : PS.length ≤ cap) (hcap2 : cap ≤ 9223372036854775807) (hn : PS.length ≤ 100) (ht : tot PS ≤ 100000) (hk : KR w Kt) :
    Calls Tryd.prog 40 #[.string s, .slice (some ⟨g, 0, none⟩) PS.length cap] w fun e w' => e = .returned (.agg (U (tagd s.data.toList (cat PS))).toArray) ∧ Below w.heap.size w w' := by
  have HP := Lib.hid hp
  have HK := Lib.hid hk
  have hlt0 := hk.lt
  have HL := Lib.hid (cat_len PS)
  clear hp hk
  go_enter Tryd.func40, Tryd.ntmps40
  go_wp2_with fail
  generalize hW1 : w.alloc _ = W1
  obtain ⟨h0, hb1, hz1⟩ := box1 w (U (flb 32 [])).toArray 23 W1 hW1
  clear hW1
  have C := concat_all PS g cap W1 (HP.out.keep (hb1.block g hg) fun i hi => ⟨by omega, hb1.block i hi⟩) (by omega) hcap hcap2 hn ht
  refine C.mono ?_
  rintro e w2 ⟨v, rfl, ho, hb2⟩
  have hz2 := hb2.size
  obtain ⟨A2, c2, rfl, hy⟩ := ho.byt
  have hd2 : RowB w2 w.heap.size 23 (flb 32 []) := (hb2.block _ (by omega)).trans h0
  have hbw : Below w.heap.size w w2 := hb1.trans (hb2.mono (by omega))
  have C2 := Lib.hid (tagged_all s (cat PS) A2 c2 w2 (by omega) (by rw [HL.out]; omega) (hy.keep fun i hi => ⟨hi.2, rfl⟩) (HK.out.keep (hbw.block 0 hlt0)))
  have HD2 := Lib.hid hd2
  have HBW := Lib.hid hbw
  clear C h0 hb1 hb2 ho hy hd2 hbw
  go_wp2_with fail
  refine C2.out.mono ?_
  rintro e w3 ⟨rfl, hb3⟩
  have hz3 := hb3.size
  have hd3 := HD2.out.keep (hb3.block w.heap.size (by omega))
  have hr3 := hd3.setRow (tagd s.data.toList (cat PS))
  have HB3 := Lib.hid (HBW.out.trans (hb3.mono (by omega)))
  clear hb3 C2
  go_wp2_with (refine store_B rfl (.tmp 4) (.tmp 8) rfl w.heap.size (flb 32 []) (tagd s.data.toList (cat PS)) rfl rfl 23 hd3 (tagd_len _ _) (by simp [flb]) ?_)
  exact bodyPost_ret (res_B rfl _ _ _ _ _ rfl hr3 (tagd_len _ _)) rfl ⟨rfl, below_setRow HB3.out (Nat.le_refl _) _⟩
end Go.Proofs.YtllkkafajchioaaDoor
